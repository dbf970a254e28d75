/-
  What package calendar's functions return, over this seat's translation: followers, wrong, New and Phase, told by plain functions over the rows as pairs of numbers (tabE: what is wrong first, and where; phaseV: the phase at a tick, and when the next one begins). Conditions stand in each theorem: where the rows lie, and that there are at most 60.
-/
import Derived.Test.YtjdkagafdnchhaaGreatDoorRows
import Derived.WalkKit
import Derived.WalkSpells
import Derived.WalkLawsBesides
import Derived.Handy
import Derived.BigQuiet
import Derived.StillTailTactics
import Derived.Maps.OwnOps
import Derived.Maps.Views
import Derived.OwnWalk
import Derived.Test.YtjdkagafdnchhaaGreatDoorLA
import Derived.Test.YtjdkagafdnchhaaGreatDoorLG
namespace Go.Proofs.YtjdkagafdnchhaaGreatDoor
open Go.RowKit

/-! what is said, over plain lists -/
def hasB : List Int → Int → Bool
  | [], _ => false
  | z :: r, x => x == z || hasB r x
theorem hasB_step {x : Int} {zs : List Int} {k : Nat} (h : k < zs.length) (hx : (x == zs[k]) = false) : hasB (zs.drop (k + 1)) x = hasB (zs.drop k) x := by
  rw [List.drop_eq_getElem_cons h]; simp [hasB, hx]
theorem hasB_hit {x : Int} {zs : List Int} {k : Nat} (h : k < zs.length) (hx : (x == zs[k]) = true) : hasB (zs.drop k) x = true := by
  rw [List.drop_eq_getElem_cons h]; simp [hasB, hx]
theorem hasB_end {x : Int} {zs : List Int} {k : Nat} (h : ¬ k < zs.length) : hasB (zs.drop k) x = false := by
  rw [List.drop_eq_nil_of_le (by omega)]; rfl

/-- 2.1: which phases may stand behind a phase. -/
def folL (p : Int) : List Int := if p = 1 then [2] else if p = 2 then [3] else if p = 3 then [5, 7] else if p = 5 then [7] else []
def wrongN (zs : List Int) (a0 a1 p1 : Int) : Int := if hasB zs p1 = true then (if a1 ≤ a0 then 10 else if 1000000 < a1 then 2 else 0) else 1

theorem cal_lt {w : World} {a : Addr} {v : Value} (h : w.cell? a = some v) : a.block < w.heap.size := by
  rcases Nat.lt_or_ge a.block w.heap.size with h' | h'
  · exact h'
  · simp [World.cell?, Array.getElem?_eq_none h'] at h
theorem cal_ret {a b : Int} (h : a = b) : Ending.returned (.int .i64 a) = .returned (.int .i64 b) := by rw [h]
theorem cal_retb {a b : Bool} (h : a = b) : Ending.returned (.bool a) = .returned (.bool b) := by rw [h]

def IntsAt (w : World) (v : Value) (zs : List Int) : Prop :=
  (zs = [] ∧ v = .slice none 0 0) ∨ ∃ b : Nat, v = .slice (some ⟨b, 0, none⟩) zs.length zs.length ∧ zs.length ≤ 1000 ∧ (∀ j, j < zs.length → w.cell? ⟨b, j, none⟩ = some (.int .i64 (zs.getD j 0)))
theorem IntsAt.below {w w' : World} {v : Value} {zs : List Int} {B : Nat} (h : IntsAt w v zs) (hb : Below B w w') (hB : w.heap.size ≤ B) : IntsAt w' v zs := by
  rcases h with h | ⟨b, h1, h2, h3⟩
  · exact Or.inl h
  · exact Or.inr ⟨b, h1, h2, fun j hj => (hb.cell (p := ⟨b, j, none⟩) (Nat.lt_of_lt_of_le (cal_lt (a := ⟨b, j, none⟩) (h3 j hj)) hB)).trans (h3 j hj)⟩

set_option maxHeartbeats 400000 in
theorem index_row (x : Int) (b : Nat) (zs : List Int) (w : World) (hbig : zs.length ≤ 1000)
    (hc : ∀ j, j < zs.length → w.cell? ⟨b, j, none⟩ = some (.int .i64 (zs.getD j 0))) :
    Calls Tryz.prog 182 #[.slice (some ⟨b, 0, none⟩) zs.length zs.length, .int .i64 x] w fun e w' => (∃ r : Int, e = .returned (.int .i64 r) ∧ decide (0 ≤ r) = hasB zs x) ∧ w' = w := by
  go_enter Tryz.func182, Tryz.ntmps182
  go_wp2
  go_loop [5, 8] (fun _ i => ∃ k : Nat, k ≤ zs.length ∧ i = .int .i64 k ∧ hasB (zs.drop k) x = hasB zs x) (fun _ i => zs.length - (intOf i).toNat)
  case atStart => exact ⟨0, Nat.zero_le _, rfl, rfl⟩
  case round =>
    obtain ⟨k, hk, rfl, hq⟩ := hrel
    have HQ : Hid (hasB (zs.drop k) x = hasB zs x) := hq
    clear hq
    have hcell : k < zs.length → w.cell? ⟨b, k, none⟩ = some (.int .i64 (zs.getD k 0)) := fun h => hc k h
    go_wp2
    · go_ret
      exact ⟨⟨_, rfl, by rw [← HQ.out, hasB_hit (by assumption) (by assumption)]; simp⟩, rfl⟩
    · go_round
      case rel => exact ⟨k + 1, by omega, by go_num, by rw [← HQ.out]; exact hasB_step (by assumption) (by assumption)⟩
      case measure => simp [intOf]; omega
    · go_ret
      exact ⟨⟨_, rfl, by rw [← HQ.out, hasB_end (by assumption)]; rfl⟩, rfl⟩

theorem index_nil (x : Int) (w : World) : Calls Tryz.prog 182 #[.slice none 0 0, .int .i64 x] w fun e w' => (∃ r : Int, e = .returned (.int .i64 r) ∧ decide (0 ≤ r) = hasB [] x) ∧ w' = w := by
  go_enter Tryz.func182, Tryz.ntmps182
  go_wp2_with fail
  refine wp_loop_rounds 1 ?_
  rw [rounds_succ]
  go_wp2
  go_ret
  exact ⟨⟨_, rfl, rfl⟩, rfl⟩

theorem index_any (x : Int) (v : Value) (zs : List Int) (w : World) (h : IntsAt w v zs) :
    Calls Tryz.prog 182 #[v, .int .i64 x] w fun e w' => (∃ r : Int, e = .returned (.int .i64 r) ∧ decide (0 ≤ r) = hasB zs x) ∧ w' = w := by
  rcases h with ⟨rfl, rfl⟩ | ⟨b, rfl, h1, h2⟩
  · exact index_nil x w
  · exact index_row x b zs w h1 h2

theorem contains_any (x : Int) (v : Value) (zs : List Int) (w : World) (h : IntsAt w v zs) :
    Calls Tryz.prog 138 #[v, .int .i64 x] w fun e w' => e = .returned (.bool (hasB zs x)) ∧ w' = w := by
  have HI : Hid (IntsAt w v zs) := h
  clear h
  go_enter Tryz.func138, Tryz.ntmps138
  go_wp2_with fail
  refine (index_any x v zs _ HI.out).mono ?_
  rintro e w1 ⟨⟨r, rfl, hr⟩, hw⟩
  subst hw
  have HR : Hid (decide (0 ≤ r) = hasB zs x) := hr
  clear hr
  go_wp2
  go_ret
  exact ⟨cal_retb HR.out, rfl⟩

set_option maxHeartbeats 400000 in
theorem wrong_any (v : Value) (zs : List Int) (a0 p0 a1 p1 : Int) (w : World) (h : IntsAt w v zs) :
    Calls Tryz.prog 84 #[v, .agg #[.int .i64 a0, .int .i64 p0], .agg #[.int .i64 a1, .int .i64 p1]] w fun e w' => e = .returned (.int .i64 (wrongN zs a0 a1 p1)) ∧ Below w.heap.size w w' := by
  have HI : Hid (IntsAt w v zs) := h
  clear h
  go_enter Tryz.func84, Tryz.ntmps84
  go_wp2_with fail
  refine (contains_any p1 v zs _ (HI.out.below (B := w.heap.size) (by go_grown) (Nat.le_refl _))).mono ?_
  rintro e w1 ⟨rfl, hw⟩
  subst hw
  cases hh : hasB zs p1 with
  | false =>
    go_wp2
    go_ret
    exact ⟨cal_ret (by unfold wrongN; rw [hh]; rfl), by go_grown⟩
  | true =>
    go_wp2
    all_goals go_ret
    · exact ⟨cal_ret (by unfold wrongN; rw [if_pos hh, if_pos (by assumption)]), by go_grown⟩
    · exact ⟨cal_ret (by unfold wrongN; rw [if_pos hh, if_neg (by omega), if_pos (by assumption)]), by go_grown⟩
    · exact ⟨cal_ret (by unfold wrongN; rw [if_pos hh, if_neg (by omega), if_neg (by omega)]), by go_grown⟩

/-! the map of what may follow -/
theorem Tryz.keyInt : Maps.Keyed Tryz.prog 3 := Maps.int_keyed Tryz.underlying3
theorem Tryz.keyIs {a : Int} (h : (Lit.int .i64 a).wf = true) : keyOf Tryz.prog 3 (.int .i64 a) = some (.int .i64 a) := Maps.keyOf_int_mk Tryz.underlying3 h
theorem Tryz.zeroInts (w : World) : (zeroValue 65).run Tryz.prog w = .ok (.slice none 0 0) w := by kernel_rfl

def folR (v : Value) : Option (DataW Unit × List MemPlace) :=
  match v with
  | .slice none 0 0 => some (.nil, [])
  | .slice (some ⟨b, 0, none⟩) n c => some (.agg [.lit (.int .i64 b), .lit (.int .i64 n), .lit (.int .i64 c)], [])
  | _ => none
def folE (b n : Nat) : DataW Unit := .agg [.lit (.int .i64 b), .lit (.int .i64 n), .lit (.int .i64 n)]
theorem folR_row (b n : Nat) : folR (.slice (some ⟨b, 0, none⟩) n n) = some (folE b n, []) := rfl
theorem folR_nil {v : Value} {ps : List MemPlace} (h : folR v = some (.nil, ps)) : v = .slice none 0 0 := by
  unfold folR at h
  split at h
  · rfl
  · simp at h
  · simp at h
theorem folR_inv {v : Value} {b n : Nat} {ps : List MemPlace} (h : folR v = some (folE b n, ps)) : v = .slice (some ⟨b, 0, none⟩) n n := by
  unfold folR at h
  split at h
  · simp [folE] at h
  · simp [folE] at h
    simp
    omega
  · simp at h
def folD (b1 b2 b3 b4 : Nat) : DataW Unit := ((((DataW.map []).put (.int .i64 1) (folE b1 1)).put (.int .i64 2) (folE b2 1)).put (.int .i64 3) (folE b3 2)).put (.int .i64 5) (folE b4 1)
theorem folD_at (b1 b2 b3 b4 : Nat) (key : Int) : (folD b1 b2 b3 b4).atKey (.int .i64 key) .nil = if key = 1 then folE b1 1 else if key = 2 then folE b2 1 else if key = 3 then folE b3 2 else if key = 5 then folE b4 1 else .nil := by
  have ne : ∀ a b : Int, a ≠ b → (Lit.int .i64 a) ≠ Lit.int .i64 b := fun a b h e => h (by injection e)
  have wf : ∀ a : Int, WideAt.IsKeyLit (Lit.int .i64 a) := fun a => trivial
  unfold folD
  by_cases h5 : key = 5
  · subst h5
    exact (Maps.atKey_put_same ⟨_, rfl⟩ (wf _) _ _).trans rfl
  rw [Maps.atKey_put_other (ne _ _ h5)]
  by_cases h3 : key = 3
  · subst h3
    exact (Maps.atKey_put_same ⟨_, rfl⟩ (wf _) _ _).trans rfl
  rw [Maps.atKey_put_other (ne _ _ h3)]
  by_cases h2 : key = 2
  · subst h2
    exact (Maps.atKey_put_same ⟨_, rfl⟩ (wf _) _ _).trans rfl
  rw [Maps.atKey_put_other (ne _ _ h2)]
  by_cases h1 : key = 1
  · subst h1
    exact (Maps.atKey_put_same ⟨_, rfl⟩ (wf _) _ _).trans rfl
  rw [Maps.atKey_put_other (ne _ _ h1), if_neg h1, if_neg h2, if_neg h3, if_neg h5]
  rfl

/-- In w block B is the map of what may follow; its lists lie in four other blocks. -/
def FolAt (w : World) (B : Nat) : Prop :=
  ∃ b1 b2 b3 b4 : Nat, w.ownsMap Tryz.prog 3 folR B 4 (folD b1 b2 b3 b4) ∧ w.cell? ⟨b1, 0, none⟩ = some (.int .i64 2) ∧ w.cell? ⟨b2, 0, none⟩ = some (.int .i64 3) ∧ w.cell? ⟨b3, 0, none⟩ = some (.int .i64 5) ∧ w.cell? ⟨b3, 1, none⟩ = some (.int .i64 7) ∧ w.cell? ⟨b4, 0, none⟩ = some (.int .i64 7)
theorem FolAt.below {w w' : World} {B n : Nat} (h : FolAt w B) (hb : Below n w w') (hn : w.heap.size ≤ n) : FolAt w' B := by
  obtain ⟨b1, b2, b3, b4, ho, c1, c2, c3, c4, c5⟩ := h
  have hl := ho.lt
  obtain ⟨es, clock, e1, e2, e3, e4⟩ := ho
  have keep : ∀ (b j : Nat) (v : Value), w.cell? ⟨b, j, none⟩ = some v → w'.cell? ⟨b, j, none⟩ = some v := fun b j v hv =>
    (hb.cell (p := ⟨b, j, none⟩) (Nat.lt_of_lt_of_le (cal_lt (a := ⟨b, j, none⟩) hv) hn)).trans hv
  exact ⟨b1, b2, b3, b4, ⟨es, clock, (hb.block B (Nat.lt_of_lt_of_le hl hn)).trans e1, e2, e3, e4⟩, keep _ _ _ c1, keep _ _ _ c2, keep _ _ _ c3, keep _ _ _ c4, keep _ _ _ c5⟩

theorem FolAt.look {w : World} {B : Nat} (h : FolAt w B) {key : Int} (hk : (Lit.int .i64 key).wf = true) :
    ∃ v, (Instr.lookup 142 (.map (some B)) (.int .i64 key) false).run Tryz.prog w = .ok v w ∧ IntsAt w v (folL key) := by
  obtain ⟨b1, b2, b3, b4, ho, c1, c2, c3, c4, c5⟩ := h
  obtain ⟨v, ps, hrun, hv⟩ := ho.lookup Tryz.keyInt Tryz.underlying142 (Tryz.zeroInts w) (zd := .nil) (zp := []) rfl (Tryz.keyIs hk)
  refine ⟨v, hrun, ?_⟩
  rw [folD_at] at hv
  unfold folL
  split at hv
  · rename_i e1
    rw [if_pos e1]
    refine Or.inr ⟨_, folR_inv hv, by decide, fun j hj => ?_⟩
    have : j = 0 := by simp at hj; omega
    subst this; exact c1
  split at hv
  · rename_i e1 e2
    rw [if_neg e1, if_pos e2]
    refine Or.inr ⟨_, folR_inv hv, by decide, fun j hj => ?_⟩
    have : j = 0 := by simp at hj; omega
    subst this; exact c2
  split at hv
  · rename_i e1 e2 e3
    rw [if_neg e1, if_neg e2, if_pos e3]
    refine Or.inr ⟨_, folR_inv hv, by decide, fun j hj => ?_⟩
    have : j = 0 ∨ j = 1 := by simp at hj; omega
    rcases this with rfl | rfl
    · exact c3
    · exact c4
  split at hv
  · rename_i e1 e2 e3 e4
    rw [if_neg e1, if_neg e2, if_neg e3, if_pos e4]
    refine Or.inr ⟨_, folR_inv hv, by decide, fun j hj => ?_⟩
    have : j = 0 := by simp at hj; omega
    subst this; exact c5
  · rename_i e1 e2 e3 e4
    rw [if_neg e1, if_neg e2, if_neg e3, if_neg e4]
    exact Or.inl ⟨rfl, folR_nil hv⟩

end Go.Proofs.YtjdkagafdnchhaaGreatDoor

/-
  What package calendar's followers, Clone, New and Phase return, over this seat's translation. Conditions stand in each theorem: where the rows lie, and that there are at most 60.
-/
namespace Go.Proofs.YtjdkagafdnchhaaGreatDoor
open Go.RowKit

theorem fol_put {w : World} {B n : Nat} {D : DataW Unit} (ho : w.ownsMap Tryz.prog 3 folR B n D) (hn : n < 100) (key : Int) (hk : (Lit.int .i64 key).wf = true) (o : Obj) (len : Nat) :
    ∃ w', (Instr.mapUpdate 142 (.map (some B)) (.int .i64 key) (.slice (some ⟨w.heap.size, 0, none⟩) len len)).run Tryz.prog (w.alloc o) = .ok () w'
      ∧ w'.ownsMap Tryz.prog 3 folR B (n + 1) (D.put (.int .i64 key) (folE w.heap.size len)) ∧ (w.alloc o).grownBy w' (some B) :=
  (ho.alloc o).update Tryz.keyInt Tryz.underlying142 (by unfold maxLen; omega) (Tryz.keyIs hk) (folR_row _ _)

/-- what lies in a block that was just laid is there behind the store into the map, and behind all that keeps it -/
theorem fol_cell {w w1 : World} {B : Nat} {vs : Array Value} {t : TypeId} (hg : (w.alloc (.cells vs t)).grownBy w1 (some B)) (hB : B < w.heap.size) {j : Nat} {v : Value} (hv : vs[j]? = some v) : w1.cell? ⟨w.heap.size, j, none⟩ = some v := by
  have h1 := hg.block w.heap.size (by simp) (by intro e; injection e with e; omega)
  exact (World.cell?_of_block (w := w.alloc (.cells vs t)) (a := ⟨w.heap.size, j, none⟩) h1).trans ((World.cell?_alloc_at _ _ _ _ rfl).trans hv)
theorem fol_keep {w w1 : World} {B : Nat} {o : Obj} (hg : (w.alloc o).grownBy w1 (some B)) {b j : Nat} {v : Value} (hb : b ≠ B) (hv : w.cell? ⟨b, j, none⟩ = some v) : w1.cell? ⟨b, j, none⟩ = some v := by
  have hl := cal_lt (a := ⟨b, j, none⟩) hv
  have h1 := hg.block b (by simp; simp at hl; omega) (by intro e; injection e with e; omega)
  exact (World.cell?_of_block (w := w.alloc o) (a := ⟨b, j, none⟩) h1).trans ((World.cell?_alloc_lt _ _ _ hl).trans hv)

set_option maxHeartbeats 400000 in
theorem followers_any (w : World) : Calls Tryz.prog 83 #[] w fun e w' => e = .returned (.map (some w.heap.size)) ∧ FolAt w' w.heap.size ∧ Below w.heap.size w w' := by
  have hmm := @run_makeMap Tryz.prog
  have h0 := World.ownsMap_made w Tryz.prog 3 folR
  have s0 : (w.alloc (.map #[] 0)).heap.size = w.heap.size + 1 := by simp
  obtain ⟨w1, r1, o1, g1⟩ := fol_put h0 (by omega) 1 (by decide) (.cells #[.int .i64 2] 3) 1
  obtain ⟨w2, r2, o2, g2⟩ := fol_put o1 (by omega) 2 (by decide) (.cells #[.int .i64 3] 3) 1
  obtain ⟨w3, r3, o3, g3⟩ := fol_put o2 (by omega) 3 (by decide) (.cells #[.int .i64 5, .int .i64 7] 3) 2
  obtain ⟨w4, r4, o4, g4⟩ := fol_put o3 (by omega) 5 (by decide) (.cells #[.int .i64 7] 3) 1
  have l1 := o1.lt
  have l2 := o2.lt
  have l3 := o3.lt
  have z1 := g1.size
  have z2 := g2.size
  have z3 := g3.size
  simp only [World.size_alloc] at z1 z2 z3
  have c1 := fol_cell (j := 0) g1 (by rw [s0]; omega) rfl
  have c2 := fol_cell (j := 0) g2 l1 rfl
  have c3 := fol_cell (j := 0) g3 l2 rfl
  have c4 := fol_cell (j := 1) g3 l2 rfl
  have c5 := fol_cell (j := 0) g4 l3 rfl
  have hF : Hid (FolAt w4 w.heap.size) := ⟨_, _, _, _, o4, fol_keep g4 (by omega) (fol_keep g3 (by omega) (fol_keep g2 (by omega) c1)), fol_keep g4 (by omega) (fol_keep g3 (by omega) c2), fol_keep g4 (by omega) c3, fol_keep g4 (by omega) c4, c5⟩
  have one : ∀ {a b : World} {o : Obj}, (a.alloc o).grownBy b (some w.heap.size) → w.heap.size ≤ a.heap.size → Below w.heap.size a b := fun {a b o} g hs =>
    ((Below.refl _ a).alloc hs o).grown g (by simp; omega) (fun k hk => by injection hk with e; omega)
  have hB : Hid (Below w.heap.size w w4) := (((((Below.refl _ w).alloc (Nat.le_refl _) _).trans (one g1 (by simp))).trans (one g2 (by omega))).trans (one g3 (by omega))).trans (one g4 (by omega))
  rw [s0] at r1
  clear o1 o2 o3 o4 g1 g2 g3 g4 l1 l2 l3 z1 z2 z3 c1 c2 c3 c4 c5 one h0 s0
  go_enter Tryz.func83, Tryz.ntmps83
  go_wp2
  go_ret
  exact ⟨rfl, hF.out, hB.out⟩

/-! rows, as pairs of numbers -/
def flat : List (Int × Int) → List Value
  | [] => []
  | r :: rs => .int .i64 r.1 :: .int .i64 r.2 :: flat rs
def rowAt (rs : List (Int × Int)) (k : Nat) : Int × Int := rs.getD k (0, 0)
theorem flat_length (rs : List (Int × Int)) : (flat rs).length = rs.length * 2 := by
  induction rs with
  | nil => rfl
  | cons r rs ih => simp [flat, ih]; omega
theorem flat_at (rs : List (Int × Int)) (k : Nat) (h : k < rs.length) : (flat rs)[k * 2]? = some (.int .i64 (rowAt rs k).1) ∧ (flat rs)[k * 2 + 1]? = some (.int .i64 (rowAt rs k).2) := by
  induction rs generalizing k with
  | nil => simp at h
  | cons r rs ih =>
    cases k with
    | zero => exact ⟨rfl, rfl⟩
    | succ k =>
      have := ih k (by simpa using h)
      rw [show (k + 1) * 2 = k * 2 + 1 + 1 by omega]
      simpa [flat, rowAt] using this
theorem flat_one (rs : List (Int × Int)) : ∀ u ∈ flat rs, u.oneCell' = true := by
  induction rs with
  | nil => simp [flat]
  | cons r rs ih =>
    intro u hu
    simp only [flat, List.mem_cons] at hu
    rcases hu with rfl | rfl | hu
    · rfl
    · rfl
    · exact ih u hu

/-- In w the rows lie in block b from cell off on. -/
def RowsAt (w : World) (b off : Nat) (rs : List (Int × Int)) : Prop := ∀ j u, (flat rs)[j]? = some u → w.cell? ⟨b, off + j, none⟩ = some u
theorem RowsAt.below {w w' : World} {b off n : Nat} {rs : List (Int × Int)} (h : RowsAt w b off rs) (hb : Below n w w') (hn : w.heap.size ≤ n) : RowsAt w' b off rs := fun j u hj =>
  (hb.cell (p := ⟨b, off + j, none⟩) (Nat.lt_of_lt_of_le (cal_lt (a := ⟨b, off + j, none⟩) (h j u hj)) hn)).trans (h j u hj)
theorem RowsAt.row {w : World} {b off : Nat} {rs : List (Int × Int)} (h : RowsAt w b off rs) {k : Nat} (hk : k < rs.length) :
    w.cell? ⟨b, off + k * 2, none⟩ = some (.int .i64 (rowAt rs k).1) ∧ w.cell? ⟨b, off + k * 2 + 1, none⟩ = some (.int .i64 (rowAt rs k).2) :=
  ⟨h _ _ (flat_at rs k hk).1, by have := h _ _ (flat_at rs k hk).2; rwa [← Nat.add_assoc] at this⟩

/-- 2.1: what is wrong first, and where (-1: nowhere). -/
def rowE (p r : Int × Int) : Int := wrongN (folL p.2) p.1 r.1 r.2
def scanE : Int × Int → Nat → List (Int × Int) → Int × Int
  | _, _, [] => (0, -1)
  | p, i, r :: rs => if rowE p r = 0 then scanE r (i + 1) rs else (rowE p r, (i : Int))
def tabE : List (Int × Int) → Int × Int
  | [] => (8, -1)
  | r :: rs => if 20 < (r :: rs).length then (4, -1) else if r = (0, 1) then scanE r 1 rs else (1, 0)

/-- In w block b is a table of these rows. -/
def TableAt (w : World) (b : Nat) (rs : List (Int × Int)) : Prop := ∃ cb c : Nat, w.cell? ⟨b, 0, none⟩ = some (.slice (some ⟨cb, 0, none⟩) rs.length c) ∧ RowsAt w cb 0 rs
theorem TableAt.below {w w' : World} {b n : Nat} {rs : List (Int × Int)} (h : TableAt w b rs) (hb : Below n w w') (hn : w.heap.size ≤ n) : TableAt w' b rs := by
  obtain ⟨cb, c, h1, h2⟩ := h
  exact ⟨cb, c, (hb.cell (p := ⟨b, 0, none⟩) (Nat.lt_of_lt_of_le (cal_lt (a := ⟨b, 0, none⟩) h1) hn)).trans h1, h2.below hb hn⟩
/-- What New hands back. -/
def NewIs (w : World) (rs : List (Int × Int)) (t err : Value) : Prop :=
  (tabE rs = (0, -1) ∧ err = .nilIface ∧ ∃ b : Nat, t = .pointer (some ⟨b, 0, none⟩) ∧ TableAt w b rs)
  ∨ (¬ (tabE rs).1 = 0 ∧ t = .pointer none ∧ (((tabE rs).2 = -1 ∧ err = .iface 32 (.int .i64 (tabE rs).1))
      ∨ ∃ b : Nat, err = .iface 140 (.pointer (some ⟨b, 0, none⟩)) ∧ w.cell? ⟨b, 0, none⟩ = some (.int .i64 (tabE rs).1) ∧ w.cell? ⟨b, 1, none⟩ = some (.int .i64 (tabE rs).2)))

theorem Tryz.sliceNot (a : Addr) (n c : Nat) (w : World) : (binOp .eql 22 (.slice (some a) n c) (.slice none 0 0)).run Tryz.prog w = .ok (.bool false) w := by kernel_rfl
theorem Tryz.infoRow : (Tryz.prog.info? 82).map (fun i => (i.zero, i.size, i.bytes)) = some (some (.agg #[.int .i64 0, .int .i64 0]), 2, 16) := by kernel_rfl

set_option maxHeartbeats 400000 in
theorem clone_any (b off cap : Nat) (rs : List (Int × Int)) (w : World) (h : RowsAt w b off rs) (hne : 0 < rs.length) (hlen : rs.length ≤ 60) :
    Calls Tryz.prog 85 #[.slice (some ⟨b, off, none⟩) rs.length cap] w
      fun e w' => ∃ cb c : Nat, e = .returned (.slice (some ⟨cb, 0, none⟩) rs.length c) ∧ RowsAt w' cb 0 rs ∧ Below w.heap.size w w' := by
  have hs := Tryz.sliceNot ⟨b, off, none⟩ rs.length cap
  obtain ⟨i0, hi, hz0, hz1, hz2⟩ := info_parts Tryz.infoRow
  have hb0 : Below w.heap.size w (w.alloc (.cells #[] 82)) := (Below.refl _ _).alloc (Nat.le_refl _) _
  have h1 : Hid (∀ j u, (flat rs)[j]? = some u → (w.alloc (.cells #[] 82)).cell? ((⟨b, off, none⟩ : Addr).add j) = some u) := fun j u hj => by
    rw [Addr.add_lit]; exact (h.below hb0 (Nat.le_refl _)) j u hj
  have h2 : Hid ((w.alloc (.cells #[] 82)).ownsRow w.heap.size 82 2 (.slice (some ⟨w.heap.size, 0, none⟩) 0 0) 0 []) :=
    ⟨rfl, Or.inr ⟨w.heap.size, 0, #[], rfl, Nat.le_refl _, (MapKept.heap_alloc w _).1, Nat.le_refl _, Nat.zero_le _, rfl, rfl⟩⟩
  clear h hb0
  go_enter Tryz.func85, Tryz.ntmps85
  go_wp2_with (at_builtin; go_loud (refine wpList_append_own _ rfl _ _ 22 rfl w.heap.size 82 i0 (.agg #[.int .i64 0, .int .i64 0]) 2 16 Tryz.underlying22 hi hz0 hz1 hz2 rfl (by decide) _ 0 [] rfl h2.out ⟨b, off, none⟩ rs.length cap (flat rs) rfl (flat_length rs) h1.out (flat_one rs) (by unfold maxLen; omega) (by omega) (by simp) ?_); intro v1 w1 hown hg hnil)
  go_ret
  obtain ⟨hl, ⟨rfl, h0⟩ | ⟨g, c, cur, rfl, hbg, hh, hnc, hcm, hcs, hct⟩⟩ := hown
  · omega
  · refine ⟨g, c, by simp, fun j u hj => ?_, ((Below.refl _ w).alloc (Nat.le_refl _) _).grown hg (by simp) (fun k hk => by cases hk; exact Nat.le_refl _)⟩
    rw [List.nil_append] at hct
    have h3 : cur.toList[j]? = some u := by
      rw [← hct, List.getElem?_take] at hj
      split at hj
      · exact hj
      · cases hj
    have h4 : cur[j]? = some u := by rw [← h3]; simp
    simp [World.cell?, hh, h4]
end Go.Proofs.YtjdkagafdnchhaaGreatDoor

/-
  What calendar.New and a Table's Phase return, over this seat's translation, at every list of at most 60 rows. Conditions stand in each theorem: where the rows lie, that each number of theirs is an int.
-/
namespace Go.Proofs.YtjdkagafdnchhaaGreatDoor
open Go.RowKit

/-- A region that draws its order, whose first n operations only read and feed the rest, which has one order: in the text's order. -/
theorem region_tail {P : Program} {id : Nat} {Q : Exit → Act → World → Prop} {a : Act} {w : World} {l : List Oper} (n : Nat) (hm : P.follows .mixedOrders = true) (hB : Region.lexTailB .any l.toArray n = true)
    (h : wpStill P l.toArray w.drew (fun a' => wpList P l.toArray Q (l.drop n) a' w.drew) (l.take n) a) : (Code.region id l.toArray true).wp P Q a w := wp_region_still_tail n hm hB h

theorem new_empty (a : Option Addr) (cap : Nat) (w : World) : Calls Tryz.prog 34 #[.slice a 0 cap] w fun e w' => e = .returned (.tuple #[.pointer none, .iface 32 (.int .i64 8)]) ∧ w' = w := by
  go_enter Tryz.func34, Tryz.ntmps34
  go_wp2
  go_ret2
  exact ⟨rfl, rfl⟩

def wfRows (rs : List (Int × Int)) : Prop := ∀ k, k < rs.length → (Lit.int .i64 (rowAt rs k).1).wf = true ∧ (Lit.int .i64 (rowAt rs k).2).wf = true

theorem scan_step {p : Int × Int} {rs : List (Int × Int)} {k : Nat} (h : k < rs.length) (he : rowE p (rowAt rs k) = 0) : scanE p k (rs.drop k) = scanE (rowAt rs k) (k + 1) (rs.drop (k + 1)) := by
  rw [List.drop_eq_getElem_cons h]
  have : rs[k] = rowAt rs k := by simp [rowAt, h]
  rw [this]; simp [scanE, he]
theorem scan_stop {p : Int × Int} {rs : List (Int × Int)} {k : Nat} (h : k < rs.length) (he : ¬ rowE p (rowAt rs k) = 0) : scanE p k (rs.drop k) = (rowE p (rowAt rs k), (k : Int)) := by
  rw [List.drop_eq_getElem_cons h]
  have : rs[k] = rowAt rs k := by simp [rowAt, h]
  rw [this]; simp [scanE, he]
theorem scan_end {p : Int × Int} {rs : List (Int × Int)} {k : Nat} (h : rs.length ≤ k) : scanE p k (rs.drop k) = (0, -1) := by
  rw [List.drop_eq_nil_of_le h]; rfl
theorem tab_cons (r : Int × Int) (rs : List (Int × Int)) : tabE (r :: rs) = if 20 < (r :: rs).length then (4, -1) else if r = (0, 1) then scanE r 1 rs else (1, 0) := rfl
theorem tab_long {rs : List (Int × Int)} (h : 20 < rs.length) : tabE rs = (4, -1) := by
  cases rs with
  | nil => simp at h
  | cons r rs => rw [tab_cons, if_pos h]
theorem tab_first {rs : List (Int × Int)} (h0 : 0 < rs.length) (h : rs.length ≤ 20) (he : ¬ rowAt rs 0 = (0, 1)) : tabE rs = (1, 0) := by
  cases rs with
  | nil => simp at h0
  | cons r rs => rw [tab_cons, if_neg (by omega), if_neg (by exact he)]
theorem tab_scan {rs : List (Int × Int)} (h0 : 0 < rs.length) (h : rs.length ≤ 20) (he : rowAt rs 0 = (0, 1)) : tabE rs = scanE (rowAt rs 0) 1 (rs.drop 1) := by
  cases rs with
  | nil => simp at h0
  | cons r rs => rw [tab_cons, if_neg (by omega), if_pos (by exact he)]; rfl

theorem bne_yes {a : Int} (h : (a != 0) = true) : ¬ a = 0 := by simpa using h
theorem bne_no {a : Int} (h : (a != 0) = false) : a = 0 := by simpa using h

theorem wrong_row (v : Value) (p r : Int × Int) (w : World) (h : IntsAt w v (folL p.2)) :
    Calls Tryz.prog 84 #[v, .agg #[.int .i64 p.1, .int .i64 p.2], .agg #[.int .i64 r.1, .int .i64 r.2]] w fun e w' => e = .returned (.int .i64 (rowE p r)) ∧ Below w.heap.size w w' := wrong_any v _ _ _ _ _ w h

set_option maxRecDepth 4000 in
set_option maxHeartbeats 1000000 in
theorem new_any (b off cap : Nat) (rs : List (Int × Int)) (w : World) (h : RowsAt w b off rs) (hwf : wfRows rs) (hne : 0 < rs.length) (hlen : rs.length ≤ 60) :
    Calls Tryz.prog 34 #[.slice (some ⟨b, off, none⟩) rs.length cap] w fun e w' => ∃ t err, e = .returned (.tuple #[t, err]) ∧ NewIs w' rs t err ∧ Below w.heap.size w w' := by
  have HR : Hid (RowsAt w b off rs) := h
  have HW : Hid (wfRows rs) := hwf
  obtain ⟨hc0, hc1⟩ := h.row hne
  simp only [Nat.zero_mul, Nat.add_zero] at hc0 hc1
  clear h hwf
  go_enter Tryz.func34, Tryz.ntmps34
  go_wp2_with fail
  · go_ret2
    exact ⟨_, _, rfl, Or.inr ⟨by rw [tab_long (by omega)]; decide, rfl, Or.inl (by rw [tab_long (by omega)]; exact ⟨rfl, rfl⟩)⟩, Below.refl _ _⟩
  · refine (followers_any _).mono ?_
    rintro e w1 ⟨rfl, hF, hb1⟩
    have H0 : Hid (tabE rs = scanE (rowAt rs 0) 1 (rs.drop 1)) := tab_scan hne (by omega) (by apply Prod.ext <;> assumption)
    have HF : Hid (FolAt w1 w.heap.size) := hF
    have HB : Hid (Below w.heap.size w w1) := hb1
    clear hF hb1 hc0 hc1
    go_wp2_with fail
    go_loopw [5, 6] (fun i _ wr => ∃ m : Nat, m < rs.length ∧ i = .int .i64 ((m + 1 : Nat) : Int) ∧ FolAt wr w.heap.size ∧ Below w.heap.size w wr ∧ scanE (rowAt rs m) (m + 1) (rs.drop (m + 1)) = tabE rs) (fun i _ _ => rs.length - (intOf i).toNat)
    case atStart => exact ⟨0, hne, rfl, HF.out, HB.out, H0.out.symm⟩
    case round =>
      obtain ⟨m, hm, rfl, hf, hb, hq⟩ := hrel
      have HF : Hid (FolAt wr w.heap.size) := hf
      have HB : Hid (Below w.heap.size w wr) := hb
      have HQ : Hid (scanE (rowAt rs m) (m + 1) (rs.drop (m + 1)) = tabE rs) := hq
      obtain ⟨c0, c1⟩ := (HR.out.below hb (Nat.le_refl _)).row hm
      clear hf hb hq
      go_wp2_with fail
      · have hm1 : m + 1 < rs.length := by omega
        obtain ⟨d0, d1⟩ := (HR.out.below HB.out (Nat.le_refl _)).row hm1
        obtain ⟨v, hrun, hv⟩ := (HF.out.below (Below.refl wr.heap.size wr).drew (Nat.le_refl _)).look (HW.out m hm).2
        have HV : Hid (IntsAt wr.drew v (folL (rowAt rs m).2)) := hv
        clear hv
        have q1 : IntKind.i64.wrap (m : Int) = m := IntWalk.i64_in _ (by omega)
        have q2 : (m : Int) < rs.length := by omega
        have q3 : (m : Int) + 1 < rs.length := by omega
        have q4 : (0 : Int) ≤ (m : Int) + 1 := by omega
        have q5 : ((m : Int) + 1).toNat = m + 1 := by omega
        refine region_tail 17 (by kernel_rfl) (by kernel_rfl) ?_
        simp only [List.take_succ_cons, List.take_zero, List.drop_succ_cons, List.drop_zero]
        repeat still_step
        try refine wpStill_nil ?_
        clear hrun q1 q2 q3 q4 q5 c0 c1 d0 d1
        go_wp2_with fail
        refine (wrong_row v (rowAt rs m) (rowAt rs (m + 1)) _ HV.out).mono ?_
        rintro e w2 ⟨rfl, hb2⟩
        have HB2 : Hid (Below wr.heap.size wr w2) := (Below.refl _ wr).drew.trans hb2
        clear hb2
        go_wp2_with fail
        · go_ret2
          have hT : tabE rs = (rowE (rowAt rs m) (rowAt rs (m + 1)), ((m + 1 : Nat) : Int)) := HQ.out.symm.trans (scan_stop hm1 (bne_yes (by assumption)))
          exact ⟨_, _, rfl, Or.inr ⟨by rw [hT]; exact bne_yes (by assumption), rfl, Or.inr ⟨w2.heap.size, rfl, by rw [hT]; exact World.cell?_alloc_at _ _ _ _ rfl, by rw [hT]; exact World.cell?_alloc_at _ _ _ _ rfl⟩⟩,
            (HB.out.trans (HB2.out.mono HB.out.size)).alloc (Nat.le_trans HB.out.size HB2.out.size) _⟩
        · go_roundw
          case rel => exact ⟨m + 1, hm1, by go_num, HF.out.below HB2.out (Nat.le_refl _), HB.out.trans (HB2.out.mono HB.out.size), (scan_step hm1 (bne_no (by assumption))).symm.trans HQ.out⟩
          case measure => simp [intOf]; omega
      · refine (clone_any b off cap rs _ (HR.out.below HB.out (Nat.le_refl _)) hne hlen).mono ?_
        rintro e w2 ⟨cb, c, rfl, hr, hb2⟩
        have hT : Hid (tabE rs = (0, -1)) := HQ.out.symm.trans (scan_end (by omega))
        have HR2 : Hid (RowsAt w2 cb 0 rs) := hr
        have HB2 : Hid (Below wr.heap.size wr w2) := hb2
        clear hb2 hr
        go_wp2
        go_ret2
        exact ⟨_, _, rfl, Or.inl ⟨hT.out, rfl, w2.heap.size, rfl, cb, c, World.cell?_alloc_at _ _ _ _ rfl, HR2.out.below ((Below.refl _ _).alloc (Nat.le_refl _) _) (Nat.le_refl _)⟩,
          (HB.out.trans (HB2.out.mono HB.out.size)).alloc (Nat.le_trans HB.out.size HB2.out.size) _⟩
  · go_ret2
    have hT : tabE rs = (1, 0) := tab_first hne (by omega) (fun e => absurd (congrArg Prod.snd e) (by assumption))
    exact ⟨_, _, rfl, Or.inr ⟨by rw [hT]; decide, rfl, Or.inr ⟨w.heap.size, rfl, by rw [hT]; exact World.cell?_alloc_at _ _ _ _ rfl, by rw [hT]; exact World.cell?_alloc_at _ _ _ _ rfl⟩⟩, (Below.refl _ _).alloc (Nat.le_refl _) _⟩
  · go_ret2
    have hT : tabE rs = (1, 0) := tab_first hne (by omega) (fun e => absurd (congrArg Prod.fst e) (by assumption))
    exact ⟨_, _, rfl, Or.inr ⟨by rw [hT]; decide, rfl, Or.inr ⟨w.heap.size, rfl, by rw [hT]; exact World.cell?_alloc_at _ _ _ _ rfl, by rw [hT]; exact World.cell?_alloc_at _ _ _ _ rfl⟩⟩, (Below.refl _ _).alloc (Nat.le_refl _) _⟩
end Go.Proofs.YtjdkagafdnchhaaGreatDoor

/-
  What a Table's Phase returns, over this seat's translation: the phase of the last row whose At is at most now (of the first one, if none is), and the next row's At. Conditions stand in the theorem: where the table lies, that it has a row and at most 60.
-/
namespace Go.Proofs.YtjdkagafdnchhaaGreatDoor
open Go.RowKit

/-- 2.1: Phase. -/
def phaseF (cur now : Int) : List (Int × Int) → Int × Int
  | [] => (cur, -1)
  | r :: rs => if now < r.1 then (cur, r.1) else phaseF r.2 now rs
def phaseV (rs : List (Int × Int)) (now : Int) : Int × Int := phaseF (rowAt rs 0).2 now (rs.drop 1)
theorem phase_step {p now : Int} {rs : List (Int × Int)} {k : Nat} (h : k < rs.length) (he : (rowAt rs k).1 ≤ now) : phaseF p now (rs.drop k) = phaseF (rowAt rs k).2 now (rs.drop (k + 1)) := by
  rw [List.drop_eq_getElem_cons h]
  have : rs[k] = rowAt rs k := by simp [rowAt, h]
  rw [this]; simp [phaseF]; omega
theorem phase_stop {p now : Int} {rs : List (Int × Int)} {k : Nat} (h : k < rs.length) (he : now < (rowAt rs k).1) : phaseF p now (rs.drop k) = (p, (rowAt rs k).1) := by
  rw [List.drop_eq_getElem_cons h]
  have : rs[k] = rowAt rs k := by simp [rowAt, h]
  rw [this]; simp [phaseF]; omega
theorem phase_end {p now : Int} {rs : List (Int × Int)} {k : Nat} (h : rs.length ≤ k) : phaseF p now (rs.drop k) = (p, -1) := by
  rw [List.drop_eq_nil_of_le h]; rfl
theorem phase_ret {v : Int × Int} {a b : Int} (h : v = (a, b)) : Ending.returned (.tuple #[.int .i64 a, .int .i64 b]) = .returned (.tuple #[.int .i64 v.1, .int .i64 v.2]) := by rw [h]

set_option maxHeartbeats 1000000 in
theorem phase_any (tb : Nat) (now : Int) (rs : List (Int × Int)) (w : World) (h : TableAt w tb rs) (hne : 0 < rs.length) (hlen : rs.length ≤ 60) :
    Calls Tryz.prog 106 #[.pointer (some ⟨tb, 0, none⟩), .int .i64 now] w
      fun e w' => e = .returned (.tuple #[.int .i64 (phaseV rs now).1, .int .i64 (phaseV rs now).2]) ∧ Below w.heap.size w w' := by
  obtain ⟨cb, c, ht, hr⟩ := h
  have HR : Hid (RowsAt w cb 0 rs) := hr
  clear hr
  go_enter Tryz.func106, Tryz.ntmps106
  go_wp2_with fail
  go_loopw [4, 13] (fun p i wr => ∃ (k : Nat) (q : Int), k ≤ rs.length ∧ i = .int .i64 k ∧ p = .int .i64 q ∧ Below w.heap.size w wr ∧ (k = 0 ∨ (0 < k ∧ phaseF q now (rs.drop k) = phaseV rs now))) (fun _ i _ => rs.length - (intOf i).toNat)
  case atStart => exact ⟨0, 0, Nat.zero_le _, rfl, rfl, Below.refl _ _, Or.inl rfl⟩
  case round =>
    obtain ⟨k, q, hk, rfl, rfl, hb, hq⟩ := hrel
    have HB : Hid (Below w.heap.size w wr) := hb
    have hc0 : k < rs.length → wr.cell? ⟨cb, k * 2, none⟩ = some (.int .i64 (rowAt rs k).1) := fun hk => by simpa using ((HR.out.below hb (Nat.le_refl _)).row hk).1
    have hc1 : k < rs.length → wr.cell? ⟨cb, k * 2 + 1, none⟩ = some (.int .i64 (rowAt rs k).2) := fun hk => by simpa using ((HR.out.below hb (Nat.le_refl _)).row hk).2
    clear hb
    rcases hq with rfl | ⟨hk0, hq⟩
    · go_wp2_with fail
      go_roundw
      case rel => exact ⟨1, (rowAt rs 0).2, hne, rfl, rfl, HB.out.alloc HB.out.size _, Or.inr ⟨Nat.one_pos, rfl⟩⟩
      case measure => simp [intOf]; omega
    · have HQ : Hid (phaseF q now (rs.drop k) = phaseV rs now) := hq
      clear hq
      go_wp2_with fail
      · go_quiet (fail)
        go_wp2
        go_ret2
        exact ⟨phase_ret (HQ.out.symm.trans (phase_stop (by assumption) (by assumption))), below_drewN (HB.out.alloc HB.out.size _) _⟩
      · go_roundw
        case rel => exact ⟨k + 1, (rowAt rs k).2, by omega, by go_num, rfl, HB.out.alloc HB.out.size _, Or.inr ⟨Nat.succ_pos _, (phase_step (by assumption) (by assumption)).symm.trans HQ.out⟩⟩
        case measure => simp [intOf]; omega
      · go_ret2
        exact ⟨phase_ret (HQ.out.symm.trans (phase_end (by omega))), HB.out⟩
end Go.Proofs.YtjdkagafdnchhaaGreatDoor

/-
  Orders' curve, as plain lists: at which prices there are points, how much is bought and sold at each, and that a rising list is told by its elements alone. No program is named here.
-/
namespace Go.Proofs.YtjdkagafdnchhaaGreatDoor
open Go.RowKit

def inC (lo hi z : Int) : Bool := decide (lo ≤ z) && decide (z ≤ hi)
theorem inC_iff {lo hi z : Int} : inC lo hi z = true ↔ (lo ≤ z ∧ z ≤ hi) := by unfold inC; simp
theorem inC_not {lo hi z : Int} : inC lo hi z = false ↔ (z < lo ∨ hi < z) := by
  rw [Bool.eq_false_iff, Ne, inC_iff]; omega

/-- a point of a curve -/
structure Pt where
  price : Int
  dem : Int
  sup : Int
def Pt.none_ : Pt := ⟨0, 0, 0⟩
def ptV : List Pt → List Value
  | [] => []
  | x :: l => .int .i64 x.price :: .int .i64 x.dem :: .int .i64 x.sup :: ptV l
def ptAt (l : List Pt) (k : Nat) : Pt := l.getD k Pt.none_
theorem ptV_length (l : List Pt) : (ptV l).length = l.length * 3 := by
  induction l with
  | nil => rfl
  | cons o l ih => simp [ptV, ih]; omega
theorem ptV_append (a b : List Pt) : ptV (a ++ b) = ptV a ++ ptV b := by
  induction a with
  | nil => rfl
  | cons o a ih => simp [ptV, ih]
theorem ptV_snoc (a : List Pt) (x : Pt) : ptV (a ++ [x]) = ptV a ++ [.int .i64 x.price, .int .i64 x.dem, .int .i64 x.sup] := by rw [ptV_append]; rfl
theorem ptV_at {l : List Pt} {k : Nat} (h : k < l.length) : (ptV l)[k * 3]? = some (.int .i64 (ptAt l k).price) ∧ (ptV l)[k * 3 + 1]? = some (.int .i64 (ptAt l k).dem) ∧ (ptV l)[k * 3 + 2]? = some (.int .i64 (ptAt l k).sup) := by
  induction l generalizing k with
  | nil => simp at h
  | cons o l ih =>
    cases k with
    | zero => exact ⟨rfl, rfl, rfl⟩
    | succ k =>
      have := ih (k := k) (by simpa using h)
      rw [show (k + 1) * 3 = k * 3 + 1 + 1 + 1 by omega]
      have e : ptAt (o :: l) (k + 1) = ptAt l k := by simp [ptAt]
      rw [e]
      simpa [ptV] using this
theorem ptAt_eq {l : List Pt} {k : Nat} (h : k < l.length) : ptAt l k = l[k] := by simp [ptAt, h]
theorem ptAt_mem {l : List Pt} {k : Nat} (h : k < l.length) : ptAt l k ∈ l := by rw [ptAt_eq h]; exact List.getElem_mem h
theorem row_pt {w : World} {base : Nat} {t : TypeId} {v : Value} {l : List Pt} (h : w.ownsRow base t 3 v l.length (ptV l)) {k : Nat} (hk : k < l.length) :
    ∃ g cap, v = .slice (some ⟨g, 0, none⟩) l.length cap ∧ w.cell? ⟨g, k * 3, none⟩ = some (.int .i64 (ptAt l k).price) ∧ w.cell? ⟨g, k * 3 + 1, none⟩ = some (.int .i64 (ptAt l k).dem) ∧ w.cell? ⟨g, k * 3 + 2, none⟩ = some (.int .i64 (ptAt l k).sup) := by
  obtain ⟨g, cap, rfl, _, _⟩ := h.form (by omega)
  obtain ⟨h1, h2, h3⟩ := ptV_at hk
  exact ⟨g, cap, rfl, (h.cellAt _ (by omega)).trans h1, (h.cellAt _ (by omega)).trans h2, (h.cellAt _ (by omega)).trans h3⟩

/-- 6.1: is an order something? -/
def okO (o : Ord) : Bool := inC 1 2 o.side && inC 1 1000000 o.qty
/-- has it a price of its own? -/
def namesO (o : Ord) : Bool := okO o && !(o.kind == 2)
/-- the prices that there are, as they come -/
def pricesO (l : List Ord) (more : Int) : List Int := (if 0 < more then [more] else []) ++ (l.filter namesO).map Ord.price
def buysB (p : Int) (o : Ord) : Bool := okO o && ((o.side == 1) && ((o.kind == 2) || decide (p ≤ o.price)))
def sellsB (p : Int) (o : Ord) : Bool := okO o && ((o.side == 2) && ((o.kind == 2) || decide (o.price ≤ p)))
/-- how much is bought at a price, and sold -/
def demO (p : Int) (l : List Ord) : Int := (l.map fun o => if buysB p o = true then o.qty else 0).sum
def supO (p : Int) (l : List Ord) : Int := (l.map fun o => if sellsB p o = true then o.qty else 0).sum

theorem sum_snoc (a : List Int) (x : Int) : (a ++ [x]).sum = a.sum + x := by simp
theorem demO_take {l : List Ord} {k : Nat} (p : Int) (h : k < l.length) : demO p (l.take (k + 1)) = demO p (l.take k) + (if buysB p (oAt l k) = true then (oAt l k).qty else 0) := by
  unfold demO
  rw [List.take_succ_eq_append_getElem h, List.map_append, List.map_singleton, sum_snoc, oAt_eq h]
theorem supO_take {l : List Ord} {k : Nat} (p : Int) (h : k < l.length) : supO p (l.take (k + 1)) = supO p (l.take k) + (if sellsB p (oAt l k) = true then (oAt l k).qty else 0) := by
  unfold supO
  rw [List.take_succ_eq_append_getElem h, List.map_append, List.map_singleton, sum_snoc, oAt_eq h]
theorem okO_qty {o : Ord} (h : okO o = true) : (1 ≤ o.side ∧ o.side ≤ 2) ∧ 1 ≤ o.qty ∧ o.qty ≤ 1000000 := by
  unfold okO at h
  rw [Bool.and_eq_true] at h
  exact ⟨inC_iff.1 h.1, inC_iff.1 h.2⟩
theorem buysB_ok {p : Int} {o : Ord} (h : buysB p o = true) : okO o = true := by unfold buysB at h; rw [Bool.and_eq_true] at h; exact h.1
theorem sellsB_ok {p : Int} {o : Ord} (h : sellsB p o = true) : okO o = true := by unfold sellsB at h; rw [Bool.and_eq_true] at h; exact h.1
theorem demO_in (p : Int) : ∀ l : List Ord, 0 ≤ demO p l ∧ demO p l ≤ 1000000 * (l.length : Int)
  | [] => by simp [demO]
  | o :: l => by
    have ih := demO_in p l
    have e : demO p (o :: l) = (if buysB p o = true then o.qty else 0) + demO p l := by simp [demO]
    rw [e, List.length_cons]
    split
    · rename_i hx
      have := (okO_qty (buysB_ok hx)).2
      omega
    · omega
theorem supO_in (p : Int) : ∀ l : List Ord, 0 ≤ supO p l ∧ supO p l ≤ 1000000 * (l.length : Int)
  | [] => by simp [supO]
  | o :: l => by
    have ih := supO_in p l
    have e : supO p (o :: l) = (if sellsB p o = true then o.qty else 0) + supO p l := by simp [supO]
    rw [e, List.length_cons]
    split
    · rename_i hx
      have := (okO_qty (sellsB_ok hx)).2
      omega
    · omega

/-- prices in the order in which sort.Ints lays them -/
def sortI (xs : List Int) : List Int := xs.mergeSort fun x y => decide (x ≤ y)
theorem sortI_length (xs : List Int) : (sortI xs).length = xs.length := List.length_mergeSort _
theorem sortI_mem {xs : List Int} {p : Int} : p ∈ sortI xs ↔ p ∈ xs := List.mem_mergeSort
theorem sortI_sorted (xs : List Int) : (sortI xs).Pairwise (· ≤ ·) := by
  have h := List.pairwise_mergeSort (le := fun x y : Int => decide (x ≤ y)) (fun a b c h1 h2 => by simp at *; omega) (fun a b => by simp; omega) xs
  exact h.imp (fun h => by simpa using h)
/-- is it the first of its kind? -/
def fstB (xs : List Int) (i : Nat) : Bool := (i == 0) || !(xs.getD (i - 1) 0 == xs.getD i 0)
/-- each of the first k once, where they rise -/
def uniqK (xs : List Int) (k : Nat) : List Int := ((List.range k).filter (fstB xs)).map fun i => xs.getD i 0
def uniqL (xs : List Int) : List Int := uniqK xs xs.length
theorem uniqK_step (xs : List Int) (k : Nat) : uniqK xs (k + 1) = if fstB xs k = true then uniqK xs k ++ [xs.getD k 0] else uniqK xs k := by
  unfold uniqK
  rw [List.range_succ, List.filter_append, List.map_append]
  by_cases h : fstB xs k = true
  · rw [if_pos h]; simp [h]
  · rw [if_neg h]; simp [h]
theorem uniqK_len (xs : List Int) : ∀ k, (uniqK xs k).length ≤ k
  | 0 => by simp [uniqK]
  | k + 1 => by
    rw [uniqK_step]
    have := uniqK_len xs k
    split
    · simp; omega
    · omega
/-- the points of orders -/
def curveL (l : List Ord) (more : Int) : List Pt := (uniqL (sortI (pricesO l more))).map fun p => ⟨p, demO p l, supO p l⟩

theorem getD_mono {xs : List Int} (h : xs.Pairwise (· ≤ ·)) {i j : Nat} (hij : i ≤ j) (hj : j < xs.length) : xs.getD i 0 ≤ xs.getD j 0 := by
  rw [List.getD_eq_getElem?_getD, List.getD_eq_getElem?_getD, List.getElem?_eq_getElem (by omega), List.getElem?_eq_getElem hj, Option.getD_some, Option.getD_some]
  rcases Nat.lt_or_eq_of_le hij with h1 | rfl
  · exact List.pairwise_iff_getElem.1 h i j (by omega) hj h1
  · exact Int.le_refl _
theorem uniqK_spec {xs : List Int} (h : xs.Pairwise (· ≤ ·)) : ∀ k, k ≤ xs.length → (uniqK xs k).Pairwise (· < ·) ∧ ∀ p, p ∈ uniqK xs k ↔ ∃ i, i < k ∧ xs.getD i 0 = p
  | 0, _ => ⟨by simp [uniqK], fun p => by simp [uniqK]⟩
  | k + 1, hk => by
    obtain ⟨h1, h2⟩ := uniqK_spec h k (by omega)
    rw [uniqK_step]
    by_cases hf : fstB xs k = true
    · rw [if_pos hf]
      refine ⟨?_, fun p => ?_⟩
      · rw [List.pairwise_append]
        refine ⟨h1, by simp, fun a ha b hb => ?_⟩
        rw [List.mem_singleton] at hb
        subst hb
        obtain ⟨i, hi, rfl⟩ := (h2 a).1 ha
        have hk0 : k ≠ 0 := by omega
        have hne : xs.getD (k - 1) 0 ≠ xs.getD k 0 := by
          unfold fstB at hf
          simpa [hk0] using hf
        have a1 := getD_mono h (i := i) (j := k - 1) (by omega) (by omega)
        have a2 := getD_mono h (i := k - 1) (j := k) (by omega) (by omega)
        omega
      · rw [List.mem_append, List.mem_singleton, h2]
        constructor
        · rintro (⟨i, hi, e⟩ | e)
          · exact ⟨i, by omega, e⟩
          · exact ⟨k, by omega, e.symm⟩
        · rintro ⟨i, hi, e⟩
          by_cases hik : i = k
          · subst hik; exact Or.inr e.symm
          · exact Or.inl ⟨i, by omega, e⟩
    · rw [if_neg hf]
      refine ⟨h1, fun p => ?_⟩
      rw [h2]
      constructor
      · rintro ⟨i, hi, e⟩; exact ⟨i, by omega, e⟩
      · rintro ⟨i, hi, e⟩
        by_cases hik : i = k
        · subst hik
          have hf' : fstB xs i = false := by simpa using hf
          unfold fstB at hf'
          rw [Bool.or_eq_false_iff] at hf'
          have hi0 : i ≠ 0 := by simpa using hf'.1
          have he : xs.getD (i - 1) 0 = xs.getD i 0 := by simpa using hf'.2
          exact ⟨i - 1, by omega, he.trans e⟩
        · exact ⟨i, by omega, e⟩
theorem uniqL_rises {xs : List Int} (h : xs.Pairwise (· ≤ ·)) : (uniqL xs).Pairwise (· < ·) := (uniqK_spec h _ (Nat.le_refl _)).1
theorem uniqL_mem {xs : List Int} (h : xs.Pairwise (· ≤ ·)) {p : Int} : p ∈ uniqL xs ↔ p ∈ xs := by
  rw [uniqL, (uniqK_spec h _ (Nat.le_refl _)).2, List.mem_iff_getElem]
  constructor
  · rintro ⟨i, hi, e⟩; exact ⟨i, hi, by simpa [List.getD_eq_getElem?_getD, hi] using e⟩
  · rintro ⟨i, hi, e⟩; exact ⟨i, hi, by simpa [List.getD_eq_getElem?_getD, hi] using e⟩
/-- a rising list is told by its elements -/
theorem rises_eq : ∀ {a b : List Int}, a.Pairwise (· < ·) → b.Pairwise (· < ·) → (∀ p, p ∈ a ↔ p ∈ b) → a = b
  | [], [], _, _, _ => rfl
  | [], y :: b, _, _, h => absurd ((h y).2 (List.mem_cons_self ..)) (by simp)
  | x :: a, [], _, _, h => absurd ((h x).1 (List.mem_cons_self ..)) (by simp)
  | x :: a, y :: b, ha, hb, h => by
    rw [List.pairwise_cons] at ha hb
    have hxy : x = y := by
      have h1 := (h x).1 (List.mem_cons_self ..)
      have h2 := (h y).2 (List.mem_cons_self ..)
      rw [List.mem_cons] at h1 h2
      rcases h1 with h1 | h1
      · exact h1
      · rcases h2 with h2 | h2
        · exact h2.symm
        · have := ha.1 y h2; have := hb.1 x h1; omega
    subst hxy
    rw [rises_eq ha.2 hb.2 (fun p => ?_)]
    constructor
    · intro hp
      have := (h p).1 (List.mem_cons_of_mem _ hp)
      rw [List.mem_cons] at this
      rcases this with rfl | h1
      · exact absurd (ha.1 p hp) (by omega)
      · exact h1
    · intro hp
      have := (h p).2 (List.mem_cons_of_mem _ hp)
      rw [List.mem_cons] at this
      rcases this with rfl | h1
      · exact absurd (hb.1 p hp) (by omega)
      · exact h1
/-- whoever finds a rising list of just those prices has the curve's -/
theorem curve_prices {l : List Ord} {more : Int} {xs : List Int} (h : xs.Pairwise (· < ·)) (hm : ∀ p, p ∈ xs ↔ p ∈ pricesO l more) : uniqL (sortI (pricesO l more)) = xs :=
  rises_eq (uniqL_rises (sortI_sorted _)) h (fun p => by rw [uniqL_mem (sortI_sorted _), sortI_mem, hm])
theorem pricesO_mem {l : List Ord} {more p : Int} : p ∈ pricesO l more ↔ ((0 < more ∧ p = more) ∨ ∃ o ∈ l, namesO o = true ∧ o.price = p) := by
  unfold pricesO
  rw [List.mem_append, List.mem_map]
  constructor
  · rintro (h | ⟨o, ho, e⟩)
    · split at h
      · rw [List.mem_singleton] at h; exact Or.inl ⟨by assumption, h⟩
      · simp at h
    · rw [List.mem_filter] at ho; exact Or.inr ⟨o, ho.1, ho.2, e⟩
  · rintro (⟨h, rfl⟩ | ⟨o, ho, h1, e⟩)
    · exact Or.inl (by rw [if_pos h]; simp)
    · exact Or.inr ⟨o, List.mem_filter.2 ⟨ho, h1⟩, e⟩
theorem pricesO_len (l : List Ord) (more : Int) : (pricesO l more).length ≤ l.length + 1 := by
  unfold pricesO
  rw [List.length_append, List.length_map]
  have := List.length_filter_le namesO l
  split <;> simp <;> omega
/-- the first k orders' prices -/
def pricesK (l : List Ord) (more : Int) (k : Nat) : List Int := pricesO (l.take k) more
theorem pricesK_step {l : List Ord} {k : Nat} (more : Int) (h : k < l.length) : pricesK l more (k + 1) = if namesO (oAt l k) = true then pricesK l more k ++ [(oAt l k).price] else pricesK l more k := by
  unfold pricesK pricesO
  rw [List.take_succ_eq_append_getElem h, List.filter_append, List.map_append, oAt_eq h, ← List.append_assoc]
  by_cases hn : namesO l[k] = true
  · rw [if_pos hn]; simp [hn]
  · rw [if_neg hn]; simp [hn]
end Go.Proofs.YtjdkagafdnchhaaGreatDoor

/-
  Which point of a curve an auction chooses, as plain lists: step by step as the document's Choose goes, and that there is always one to be chosen where something is traded. No program is named here.
-/
namespace Go.Proofs.YtjdkagafdnchhaaGreatDoor
open Go.RowKit

/-- how much is traded at a point, and how much is left -/
def trB (x : Pt) : Int := min x.dem x.sup
def absI (n : Int) : Int := if n < 0 then -n else n
def lfB (x : Pt) : Int := absI (x.dem - x.sup)
def mostL (l : List Pt) : Int := l.foldl (fun m x => max m (trB x)) 0
def leastStep (m : Int) (s : Int × Bool) (x : Pt) : Int × Bool := if trB x = m ∧ (s.2 = false ∨ lfB x < s.1) then (lfB x, true) else s
def leastL (m : Int) (l : List Pt) : Int × Bool := l.foldl (leastStep m) (0, false)
def bestB (m n : Int) (x : Pt) : Bool := (trB x == m) && (lfB x == n)
def bestL (m n : Int) (l : List Pt) : List Pt := l.filter (bestB m n)
def buysA (l : List Pt) : Bool := l.all fun x => decide (x.sup < x.dem)
def sellsA (l : List Pt) : Bool := l.all fun x => decide (x.dem < x.sup)
def betterB (b s : Bool) (around : Int) (p x : Pt) : Bool :=
  if b = true then decide (x.price < p.price) else if s = true then decide (p.price < x.price)
  else decide (absI (p.price - around) < absI (x.price - around)) || ((absI (p.price - around) == absI (x.price - around)) && decide (p.price < x.price))
def takeB (b s : Bool) (around : Int) (x p : Pt) : Pt := if betterB b s around p x = true then p else x
def pickL (b s : Bool) (around : Int) (l : List Pt) : Pt := l.foldl (takeB b s around) (ptAt l 0)
def pickK (b s : Bool) (around : Int) (l : List Pt) (k : Nat) : Pt := (l.take k).foldl (takeB b s around) (ptAt l 0)
/-- the point that is chosen -/
def chosenP (l : List Pt) (around : Int) : Pt :=
  let best := bestL (mostL l) (leastL (mostL l) l).1 l
  pickL (buysA best) (sellsA best) around best
/-- 6.2: its price, what is traded, and what is left over -/
structure Quo where
  price : Int
  qty : Int
  sur : Int
def quoP (x : Pt) : Quo := ⟨x.price, trB x, x.dem - x.sup⟩
def chooseL (l : List Pt) (around : Int) : Quo := if mostL l < 1 then ⟨0, 0, 0⟩ else quoP (chosenP l around)

theorem foldl_take {α : Type} (f : α → Pt → α) (a : α) {l : List Pt} {k : Nat} (h : k < l.length) : (l.take (k + 1)).foldl f a = f ((l.take k).foldl f a) (ptAt l k) := by
  rw [List.take_succ_eq_append_getElem h, List.foldl_append, ptAt_eq h]; rfl
theorem mostL_take {l : List Pt} {k : Nat} (h : k < l.length) : mostL (l.take (k + 1)) = max (mostL (l.take k)) (trB (ptAt l k)) := foldl_take _ _ h
theorem leastL_take {l : List Pt} {k : Nat} (m : Int) (h : k < l.length) : leastL m (l.take (k + 1)) = leastStep m (leastL m (l.take k)) (ptAt l k) := foldl_take _ _ h
theorem bestL_take {l : List Pt} {k : Nat} (m n : Int) (h : k < l.length) : bestL m n (l.take (k + 1)) = if bestB m n (ptAt l k) = true then bestL m n (l.take k) ++ [ptAt l k] else bestL m n (l.take k) := by
  unfold bestL
  rw [List.take_succ_eq_append_getElem h, List.filter_append, ptAt_eq h]
  by_cases hb : bestB m n l[k] = true
  · rw [if_pos hb]; simp [hb]
  · rw [if_neg hb]; simp [hb]
theorem pickK_step {b s : Bool} {around : Int} {l : List Pt} {k : Nat} (h : k < l.length) : pickK b s around l (k + 1) = takeB b s around (pickK b s around l k) (ptAt l k) := foldl_take _ _ h
theorem pickK_all (b s : Bool) (around : Int) (l : List Pt) : pickK b s around l l.length = pickL b s around l := by unfold pickK pickL; rw [List.take_length]
theorem buysA_snoc (l : List Pt) (x : Pt) : buysA (l ++ [x]) = (buysA l && decide (x.sup < x.dem)) := by simp [buysA, List.all_append]
theorem sellsA_snoc (l : List Pt) (x : Pt) : sellsA (l ++ [x]) = (sellsA l && decide (x.dem < x.sup)) := by simp [sellsA, List.all_append]

/-- numbers that can be reckoned with -/
structure Pt.Small (x : Pt) : Prop where
  p : -1099511627776 ≤ x.price ∧ x.price ≤ 1099511627776
  d : -1099511627776 ≤ x.dem ∧ x.dem ≤ 1099511627776
  s : -1099511627776 ≤ x.sup ∧ x.sup ≤ 1099511627776
theorem absI_in (n : Int) : 0 ≤ absI n ∧ n ≤ absI n ∧ -n ≤ absI n ∧ (absI n = n ∨ absI n = -n) := by
  unfold absI; split <;> omega
theorem trB_in {x : Pt} (h : x.Small) : -1099511627776 ≤ trB x ∧ trB x ≤ 1099511627776 := by
  have := h.d; have := h.s; unfold trB; omega
theorem mostL_zero (l : List Pt) : 0 ≤ mostL l := by
  have : ∀ (l : List Pt) (a : Int), 0 ≤ a → 0 ≤ l.foldl (fun m x => max m (trB x)) a := by
    intro l
    induction l with
    | nil => intro a h; exact h
    | cons x l ih => intro a h; exact ih (max a (trB x)) (by omega)
  exact this l 0 (Int.le_refl _)
theorem mostL_max {l : List Pt} {x : Pt} (h : x ∈ l) : trB x ≤ mostL l := by
  have mono : ∀ (l : List Pt) (a : Int), a ≤ l.foldl (fun m x => max m (trB x)) a := by
    intro l
    induction l with
    | nil => intro a; exact Int.le_refl _
    | cons y l ih => intro a; exact Int.le_trans (by omega) (ih (max a (trB y)))
  have key : ∀ (l : List Pt) (a : Int), x ∈ l → trB x ≤ l.foldl (fun m x => max m (trB x)) a := by
    intro l
    induction l with
    | nil => intro a h; cases h
    | cons y l ih =>
      intro a h
      rw [List.mem_cons] at h
      rcases h with rfl | h
      · exact Int.le_trans (by omega) (mono l (max a (trB x)))
      · exact ih _ h
  exact key l 0 h
theorem mostL_is (l : List Pt) : mostL l = 0 ∨ ∃ x ∈ l, trB x = mostL l := by
  have key : ∀ (l : List Pt) (a : Int), l.foldl (fun m x => max m (trB x)) a = a ∨ ∃ x ∈ l, trB x = l.foldl (fun m x => max m (trB x)) a := by
    intro l
    induction l with
    | nil => intro a; exact Or.inl rfl
    | cons y l ih =>
      intro a
      rw [List.foldl_cons]
      rcases ih (max a (trB y)) with h | ⟨x, hx, h⟩
      · rw [h]
        by_cases hm : trB y ≤ a
        · exact Or.inl (by omega)
        · exact Or.inr ⟨y, List.mem_cons_self .., by omega⟩
      · exact Or.inr ⟨x, List.mem_cons_of_mem _ hx, h⟩
  exact key l 0
theorem mostL_in {l : List Pt} (h : ∀ x ∈ l, x.Small) : 0 ≤ mostL l ∧ mostL l ≤ 1099511627776 := by
  refine ⟨mostL_zero l, ?_⟩
  rcases mostL_is l with h1 | ⟨x, hx, h1⟩
  · omega
  · rw [← h1]; exact (trB_in (h x hx)).2
/-- what has been found as the least is some point's, and no point has less -/
theorem leastL_spec (m : Int) : ∀ l : List Pt, ((leastL m l).2 = false ∧ ∀ x ∈ l, trB x ≠ m) ∨ ((leastL m l).2 = true ∧ (∃ x ∈ l, trB x = m ∧ lfB x = (leastL m l).1) ∧ ∀ x ∈ l, trB x = m → (leastL m l).1 ≤ lfB x) := by
  have key : ∀ (l pre : List Pt) (s : Int × Bool), ((s.2 = false ∧ ∀ x ∈ pre, trB x ≠ m) ∨ (s.2 = true ∧ (∃ x ∈ pre, trB x = m ∧ lfB x = s.1) ∧ ∀ x ∈ pre, trB x = m → s.1 ≤ lfB x)) →
      (((l.foldl (leastStep m) s).2 = false ∧ ∀ x ∈ pre ++ l, trB x ≠ m) ∨ ((l.foldl (leastStep m) s).2 = true ∧ (∃ x ∈ pre ++ l, trB x = m ∧ lfB x = (l.foldl (leastStep m) s).1) ∧ ∀ x ∈ pre ++ l, trB x = m → (l.foldl (leastStep m) s).1 ≤ lfB x)) := by
    intro l
    induction l with
    | nil => intro pre s h; simpa using h
    | cons y l ih =>
      intro pre s h
      rw [List.foldl_cons, show pre ++ y :: l = (pre ++ [y]) ++ l by simp]
      refine ih (pre ++ [y]) _ ?_
      unfold leastStep
      by_cases hy : trB y = m ∧ (s.2 = false ∨ lfB y < s.1)
      · rw [if_pos hy]
        right
        refine ⟨rfl, ⟨y, by simp, hy.1, rfl⟩, fun x hx hm => ?_⟩
        rw [List.mem_append, List.mem_singleton] at hx
        rcases hx with hx | rfl
        · rcases h with ⟨_, h2⟩ | ⟨h1, _, h3⟩
          · exact absurd hm (h2 x hx)
          · have := h3 x hx hm
            rcases hy.2 with h4 | h4
            · rw [h1] at h4; cases h4
            · show lfB y ≤ lfB x; omega
        · exact Int.le_refl _
      · rw [if_neg hy]
        rcases h with ⟨h1, h2⟩ | ⟨h1, ⟨z, hz, hz1, hz2⟩, h3⟩
        · left
          refine ⟨h1, fun x hx hm => ?_⟩
          rw [List.mem_append, List.mem_singleton] at hx
          rcases hx with hx | rfl
          · exact h2 x hx hm
          · exact hy ⟨hm, Or.inl h1⟩
        · right
          refine ⟨h1, ⟨z, by simp [hz], hz1, hz2⟩, fun x hx hm => ?_⟩
          rw [List.mem_append, List.mem_singleton] at hx
          rcases hx with hx | rfl
          · exact h3 x hx hm
          · have : ¬ lfB x < s.1 := fun e => hy ⟨hm, Or.inr e⟩
            omega
  intro l
  have := key l [] (0, false) (Or.inl ⟨rfl, fun x hx => by cases hx⟩)
  simpa [leastL] using this
theorem best_some {l : List Pt} (h : 1 ≤ mostL l) : 0 < (bestL (mostL l) (leastL (mostL l) l).1 l).length := by
  rcases mostL_is l with h1 | ⟨x, hx, h1⟩
  · omega
  · rcases leastL_spec (mostL l) l with ⟨_, h2⟩ | ⟨_, ⟨z, hz, hz1, hz2⟩, _⟩
    · exact absurd h1 (h2 x hx)
    · exact List.length_pos_of_mem (a := z) (List.mem_filter.2 ⟨hz, by unfold bestB; simp [hz1, hz2]⟩)
theorem pickK_mem (b s : Bool) (around : Int) {l : List Pt} (h : 0 < l.length) : ∀ k, k ≤ l.length → pickK b s around l k ∈ l
  | 0, _ => by unfold pickK; simpa using ptAt_mem h
  | k + 1, hk => by
    rw [pickK_step (by omega)]
    unfold takeB
    split
    · exact ptAt_mem (by omega)
    · exact pickK_mem b s around h k (by omega)
theorem chosen_mem {l : List Pt} (around : Int) (h : 1 ≤ mostL l) : chosenP l around ∈ l ∧ trB (chosenP l around) = mostL l := by
  have h0 := best_some h
  have h1 := pickK_mem (buysA (bestL (mostL l) (leastL (mostL l) l).1 l)) (sellsA (bestL (mostL l) (leastL (mostL l) l).1 l)) around h0 _ (Nat.le_refl _)
  rw [pickK_all] at h1
  have h2 : chosenP l around ∈ bestL (mostL l) (leastL (mostL l) l).1 l := h1
  have h3 := List.mem_filter.1 h2
  refine ⟨h3.1, ?_⟩
  have h4 := h3.2
  unfold bestB at h4
  rw [Bool.and_eq_true] at h4
  simpa using h4.1
end Go.Proofs.YtjdkagafdnchhaaGreatDoor

/-
  The document's market (chapter 9), as plain functions of what it holds. No program is named here but by the texts that it imports.
-/
namespace Go.Proofs.YtjdkagafdnchhaaGreatDoor
open Go.RowKit

/-- a market: its table, bands, ticks; who lies, who waits, which numbers were taken; phase, tick, when a volatility auction ends, how often it was made longer -/
structure Mkt where
  rs : List (Int × Int)
  st : Int
  dy : Int
  an : Int
  la : Int
  ti : Int
  mo : Int
  L : List Ord
  P : List Ord
  I : List Int
  ph : Int
  now : Int
  en : Int
  lo : Int

/-! 8.1, all trades of an auction's price -/
def fillsK (p : Int) : Nat → FS → FS
  | 0, s => s
  | n + 1, s => if s.q ≤ 0 then s else fillsK p n (fstep p s)
theorem fiter_shift (p : Int) (s : FS) : ∀ k, fiter p (fstep p s) k = fiter p s (k + 1)
  | 0 => rfl
  | k + 1 => by
    show fstep p (fiter p (fstep p s) k) = fstep p (fiter p s (k + 1))
    rw [fiter_shift p s k]
theorem fillsK_is {p : Int} : ∀ {K n : Nat} {s : FS}, (fiter p s K).q = 0 → (∀ j, j < K → 0 < (fiter p s j).q) → K ≤ n → fillsK p n s = fiter p s K
  | 0, 0, _, _, _, _ => rfl
  | 0, n + 1, s, h, _, _ => by
    have h' : s.q = 0 := h
    show (if s.q ≤ 0 then s else _) = s
    rw [if_pos (by omega)]
  | K + 1, 0, _, _, _, hn => by omega
  | K + 1, n + 1, s, h, hj, hn => by
    have h0 : 0 < s.q := hj 0 (by omega)
    show (if s.q ≤ 0 then s else fillsK p n (fstep p s)) = _
    rw [if_neg (by omega), fillsK_is (K := K) (by rw [fiter_shift]; exact h) (fun j hjk => by rw [fiter_shift]; exact hj (j + 1) (by omega)) (by omega), fiter_shift]
def fillsF (p q : Int) (L : List Ord) : FS := fillsK p (L.length + 1) ⟨[], L, q⟩
theorem fillsF_is {p q : Int} {L : List Ord} {K : Nat} (h : FOk p ⟨[], L, q⟩) (h0 : (fiter p ⟨[], L, q⟩ K).q = 0) (hj : ∀ j, j < K → 0 < (fiter p ⟨[], L, q⟩ j).q) : fillsF p q L = fiter p ⟨[], L, q⟩ K := by
  refine fillsK_is h0 hj ?_
  cases K with
  | zero => omega
  | succ K =>
    have := fiter_few h K hj
    have e : (⟨[], L, q⟩ : FS).L.length = L.length := rfl
    omega

/-! 9.1 -/
def wouldM (m : Mkt) : Quo := chooseL (curveL m.L m.la) m.la
def quoteM (m : Mkt) : Quo := if auctB m.ph = true then wouldM m else ⟨0, 0, 0⟩
/-! 9.2 -/
/-- the price that was told last -/
def lastT (la : Int) : List Int → Int
  | [] => la
  | p :: ts => lastT p ts
theorem lastT_snoc (la : Int) : ∀ (ts : List Int) (p : Int), lastT la (ts ++ [p]) = p
  | [], _ => rfl
  | x :: ts, p => lastT_snoc x ts p
def alM (m : Mkt) (ts : List Int) (p : Int) : Bool := allowsB m.st m.dy m.an (lastT m.la ts) p
def volM (m : Mkt) : Mkt := { m with ph := 4, en := m.now + m.ti, lo := 0 }
def ordN (m : Mkt) (o : Ord) : Int :=
  if (decide (1 ≤ o.side) && decide (o.side ≤ 2)) = false ∨ (decide (1 ≤ o.kind) && decide (o.kind ≤ 4)) = false ∨ o.id < 1 then 1
  else if rightO (lieO o).price o.qty = false then 2 else if takesB m.ph o.kind = false then 6 else if o.id ∈ m.I then 9 else if 100 ≤ m.L.length + m.P.length then 12 else 0
def meetM (m : Mkt) (o : Ord) : MS × Bool := meetS (alM m) o (sideO (3 - o.side) m.L) ⟨[], m.L, o.qty, []⟩
/-- an order that may trade: what is traded, and the market behind it -/
def tradeM (m : Mkt) (o : Ord) : List Fil × Mkt :=
  ((meetM m o).1.fs, if (meetM m o).2 = true then volM { m with L := if 0 < (meetM m o).1.q ∧ o.kind ≠ 2 then addL (leftO o (meetM m o).1.q) (meetM m o).1.L else (meetM m o).1.L, la := lastT m.la (meetM m o).1.ts }
    else { m with L := if 0 < (meetM m o).1.q ∧ o.kind ≠ 2 then addL (leftO o (meetM m o).1.q) (meetM m o).1.L else (meetM m o).1.L, la := lastT m.la (meetM m o).1.ts })
def takenM (m : Mkt) (o : Ord) : List Fil × Mkt :=
  if o.kind = 4 ∧ m.ph ≠ 5 then ([], { m with P := m.P ++ [o] }) else if m.ph ≠ 3 then ([], { m with L := addL o m.L }) else tradeM m o
def ordM (m : Mkt) (o : Ord) : List Fil × Mkt := if ordN m o = 0 then takenM { m with I := m.I ++ [o.id] } (lieO o) else ([], m)
def canNM (m : Mkt) (id : Int) : Int := if m.ph = 7 then 6 else if 0 ≤ idxO id m.P then 0 else canN id m.L
def canM (m : Mkt) (id : Int) : Mkt := if m.ph = 7 then m else if 0 ≤ idxO id m.P then { m with P := goneL (idxO id m.P).toNat m.P } else { m with L := canL id m.L }
/-! 9.3 -/
def limL (L : List Ord) : List Ord := L.filter fun o => o.kind == 1
def uncM (m : Mkt) : List Fil × Mkt :=
  if 0 < (wouldM m).qty then ((fillsF (wouldM m).price (wouldM m).qty m.L).fs, { m with L := limL (fillsF (wouldM m).price (wouldM m).qty m.L).L, an := (wouldM m).price, la := (wouldM m).price })
  else ([], { m with L := limL m.L })
def closM (m : Mkt) : Mkt := { m with ph := 5, L := m.P.foldl (fun L o => addL o L) m.L, P := [] }
def tickN (m : Mkt) : Int := if m.ph = 7 then 6 else 0
/-- a tick, behind its number -/
def tickA (was is : Int) (m : Mkt) : List Fil × Mkt :=
  if is = 7 then ((if m.ph = 5 then (uncM m).1 else []), { (if m.ph = 5 then (uncM m).2 else m) with L := [], P := [], ph := 7 })
  else if m.ph = 6 then ([], m)
  else if was ≠ is ∧ is = 3 then ((uncM m).1, { (uncM m).2 with ph := is })
  else if was ≠ is ∧ is = 5 then ([], closM m)
  else if was ≠ is then ([], { m with ph := is })
  else if m.ph = 4 ∧ m.en ≤ m.now then
    (if (wouldM m).qty = 0 ∨ calmB m.st m.an (wouldM m).price = true then ((uncM m).1, { (uncM m).2 with ph := 3 })
     else if m.lo < m.mo then ([], { m with lo := m.lo + 1, en := m.now + m.ti })
     else ([], { m with ph := 6 }))
  else ([], m)
def tickM (m : Mkt) : List Fil × Mkt := if m.ph = 7 then ([], m) else tickA (phaseV m.rs m.now).1 (phaseV m.rs (m.now + 1)).1 { m with now := m.now + 1 }
/-! 9.4 -/
def haltN (m : Mkt) : Int := if m.ph = 6 ∨ m.ph = 7 then 6 else 0
def haltM (m : Mkt) : Mkt := if m.ph = 6 ∨ m.ph = 7 then m else { m with ph := 6 }
def openN (m : Mkt) : Int := if m.ph = 6 then 0 else 6
def openM (m : Mkt) : Mkt := if m.ph = 6 then (if (phaseV m.rs m.now).1 = 3 then volM m else if (phaseV m.rs m.now).1 = 5 then closM m else { m with ph := (phaseV m.rs m.now).1 }) else m
end Go.Proofs.YtjdkagafdnchhaaGreatDoor

/-
  What Fills leaves of a side, as plain lists: so many lots off its front, the best first; and how many lots were traded. No program is named here.
-/
namespace Go.Proofs.YtjdkagafdnchhaaGreatDoor
open Go.RowKit

/-- n lots off the front -/
def eatL : Int → List Ord → List Ord
  | _, [] => []
  | n, x :: T => if n < x.qty then (if n ≤ 0 then x :: T else cutO n x :: T) else eatL (n - x.qty) T
theorem eat_none : ∀ {Z : List Ord}, (∀ o ∈ Z, 1 ≤ o.qty) → eatL 0 Z = Z
  | [], _ => rfl
  | x :: T, h => by
    have := h x (List.mem_cons_self ..)
    rw [eatL, if_pos (by omega), if_pos (by omega)]
/-- n lots more, of the one that is first -/
theorem eat_step : ∀ {Z : List Ord} {n0 n : Int} {x : Ord} {T : List Ord}, (∀ o ∈ Z, 1 ≤ o.qty) → 0 ≤ n0 → eatL n0 Z = x :: T → 1 ≤ n → n ≤ x.qty → eatL (n0 + n) Z = if x.qty = n then T else cutO n x :: T
  | [], _, _, _, _, _, _, h, _, _ => by cases h
  | z :: Z, n0, n, x, T, hz, h0, h, h1, h2 => by
    have hz1 := hz z (List.mem_cons_self ..)
    have hzs : ∀ o ∈ Z, 1 ≤ o.qty := fun o ho => hz o (List.mem_cons_of_mem _ ho)
    rw [eatL] at h ⊢
    by_cases hn : n0 < z.qty
    · rw [if_pos hn] at h
      by_cases hn0 : n0 ≤ 0
      · obtain rfl : n0 = 0 := by omega
        rw [if_pos hn0] at h
        injection h with e1 e2
        subst e1 e2
        rw [Int.zero_add]
        by_cases e : z.qty = n
        · rw [if_neg (by omega), if_pos e, show n - z.qty = 0 by omega, eat_none hzs]
        · rw [if_pos (by omega), if_neg (by omega), if_neg e]
      · rw [if_neg hn0] at h
        injection h with e1 e2
        subst e1 e2
        have hq : (cutO n0 z).qty = z.qty - n0 := rfl
        rw [hq] at h2 ⊢
        by_cases e : z.qty - n0 = n
        · rw [if_neg (by omega), if_pos e, show n0 + n - z.qty = 0 by omega, eat_none hzs]
        · rw [if_pos (by omega), if_neg (by omega), if_neg e]
          congr 1
          show ({ z with qty := z.qty - (n0 + n) } : Ord) = { z with qty := z.qty - n0 - n }
          rw [Int.sub_sub]
    · rw [if_neg hn] at h
      rw [if_neg (by omega), show n0 + n - z.qty = n0 - z.qty + n by omega]
      exact eat_step hzs (by omega) h h1 h2
theorem fiter_q {p : Int} {s : FS} (h : FOk p s) : ∀ k, (∀ j, j < k → 0 < (fiter p s j).q) → 0 ≤ (fiter p s k).q ∧ (fiter p s k).q ≤ s.q
  | 0, _ => ⟨h.nn, Int.le_refl _⟩
  | k + 1, hq => by
    have h1 := fiter_ok h (k + 1) hq
    obtain ⟨_, h2⟩ := fiter_q h k (fun j hj => hq j (by omega))
    obtain ⟨⟨x, T, y, U, hr⟩, _⟩ := fstep_ok (fiter_ok h k (fun j hj => hq j (by omega))) (hq k (by omega))
    have n1 := hr.2.2.2.2.2.2.2.1
    have e : (fiter p s (k + 1)).q = (fiter p s k).q - lotN (fiter p s k) := rfl
    exact ⟨h1.nn, by omega⟩
/-- both sides, behind k trades -/
theorem fiter_eat {p : Int} {s : FS} (h : FOk p s) : ∀ k, (∀ j, j < k → 0 < (fiter p s j).q) → sideO 1 (fiter p s k).L = eatL (s.q - (fiter p s k).q) (sideO 1 s.L) ∧ sideO 2 (fiter p s k).L = eatL (s.q - (fiter p s k).q) (sideO 2 s.L)
  | 0, _ => by
    have hq : ∀ t, ∀ o ∈ sideO t s.L, 1 ≤ o.qty := fun t o ho => (h.ok.ok o (sideO_mem.1 ho).1).2.2.1
    show sideO 1 s.L = eatL (s.q - s.q) _ ∧ sideO 2 s.L = eatL (s.q - s.q) _
    rw [Int.sub_self, eat_none (hq 1), eat_none (hq 2)]
    exact ⟨rfl, rfl⟩
  | k + 1, hq => by
    have hk : ∀ j, j < k → 0 < (fiter p s j).q := fun j hj => hq j (by omega)
    have hz : ∀ t, ∀ o ∈ sideO t s.L, 1 ≤ o.qty := fun t o ho => (h.ok.ok o (sideO_mem.1 ho).1).2.2.1
    obtain ⟨i1, i2⟩ := fiter_eat h k hk
    have hb := fiter_q h k hk
    have hO := fiter_ok h k hk
    obtain ⟨⟨x, T, y, U, hS1, hS2, _, _, hxL, hyL, _, n1, n2, n3, n4, _, hL, _, _, ok1⟩, _⟩ := fstep_ok hO (hq k (by omega))
    have e : (fiter p s (k + 1)).q = (fiter p s k).q - lotN (fiter p s k) := rfl
    have eL : (fiter p s (k + 1)).L = lessF y.id (lotN (fiter p s k)) (lessF x.id (lotN (fiter p s k)) (fiter p s k).L) := hL
    rw [e, eL, show s.q - ((fiter p s k).q - lotN (fiter p s k)) = s.q - (fiter p s k).q + lotN (fiter p s k) by omega]
    rw [hS1] at i1
    rw [hS2] at i2
    have hx1 : x ∈ sideO 1 (fiter p s k).L := by rw [hS1]; exact List.mem_cons_self ..
    have s2 : sideO 2 (lessF x.id (lotN (fiter p s k)) (fiter p s k).L) = y :: U := (side_other hO.ok hx1 (by decide)).trans hS2
    have hy2 : y ∈ sideO 2 (lessF x.id (lotN (fiter p s k)) (fiter p s k).L) := by rw [s2]; exact List.mem_cons_self ..
    refine ⟨?_, ?_⟩
    · rw [side_other ok1 hy2 (by decide), side_best hO.ok hS1 n3, eat_step (hz 1) (by omega) i1.symm n1 n3]
    · rw [side_best ok1 s2 n4, eat_step (hz 2) (by omega) i2.symm n1 n4]
def sumF (l : List Fil) : Int := l.foldl (fun n f => n + f.qty) 0
theorem sumF_snoc (l : List Fil) (f : Fil) : sumF (l ++ [f]) = sumF l + f.qty := by unfold sumF; rw [List.foldl_append]; rfl
/-- just so many lots are traded -/
theorem fiter_sum {p : Int} {L : List Ord} {q : Int} : ∀ k, sumF (fiter p ⟨[], L, q⟩ k).fs = q - (fiter p ⟨[], L, q⟩ k).q
  | 0 => by show (0 : Int) = q - q; omega
  | k + 1 => by
    have ih := fiter_sum (p := p) (L := L) (q := q) k
    have e : (fiter p ⟨[], L, q⟩ (k + 1)).q = (fiter p ⟨[], L, q⟩ k).q - lotN (fiter p ⟨[], L, q⟩ k) := rfl
    show sumF ((fiter p ⟨[], L, q⟩ k).fs ++ [_]) = _
    rw [sumF_snoc, ih, e]
    show q - (fiter p ⟨[], L, q⟩ k).q + lotN (fiter p ⟨[], L, q⟩ k) = _
    omega
end Go.Proofs.YtjdkagafdnchhaaGreatDoor
