/-
  An arena of numbers in memory, and what arena.New, Many, find and Get return, over this seat's translation, told by the plain lists of ArSl. Conditions stand in each theorem: where the arena lies, and that its slots are at most 1000.
-/
import Derived.Test.YtgocmaijpihakaaDoorArSl
import Derived.WalkSpells
import Derived.WalkLawsBesides
import Derived.Handy
import Derived.BigQuiet
import Derived.OwnWalk
import Derived.OneCell
import Derived.Deep.QuietTactic
import Derived.Deep.AppendLies
namespace Go.Proofs.YtgocmaijpihakaaDoor
open Go.RowKit

theorem blk_cell {w : World} {b j : Nat} {vs : Array Value} {t : TypeId} {v : Value} (h : w.heap[b]? = some (.cells vs t (0, 0))) (hj : vs[j]? = some v) : w.cell? ⟨b, j, none⟩ = some v := (cell_of_row w b j vs t (0, 0) h).trans hj
theorem blk_free {w : World} {b j : Nat} {vs : Array Value} {t : TypeId} (h : w.heap[b]? = some (.cells vs t (0, 0))) : w.frozen? ⟨b, j, none⟩ = false := frozen_of_row w b j vs t h
theorem blk_set {w : World} {b j : Nat} {vs : Array Value} {t : TypeId} (u : Value) (h : w.heap[b]? = some (.cells vs t (0, 0))) : (w.setCell ⟨b, j, none⟩ u).heap[b]? = some (.cells (vs.setIfInBounds j u) t (0, 0)) := heap_setCell_same w b j vs t u h
theorem blk_ne {w : World} {b g : Nat} {vs us : Array Value} {t s : TypeId} {f f' : Nat × Nat} (h : w.heap[b]? = some (.cells vs t f)) (h' : w.heap[g]? = some (.cells us s f')) (hn : t ≠ s) : b ≠ g := fun e => by
  subst e; rw [h] at h'; injection h' with h'; injection h' with _ h' _; exact hn h'

/-- What a value looks like that owns a row. -/
theorem owns_shape {w : World} {base : Nat} {e : TypeId} {size : Nat} {v : Value} {n : Nat} {xs : List Value} (h : w.ownsRow base e size v n xs) : ∃ (ao : Option Addr) (cap : Nat), v = .slice ao n cap ∧ n ≤ cap ∧ cap ≤ maxLen := by
  rcases h.2 with ⟨rfl, rfl⟩ | ⟨g, cap, cur, rfl, _, _, h1, h2, _⟩
  · exact ⟨none, 0, rfl, Nat.le_refl _, Nat.zero_le _⟩
  · exact ⟨some ⟨g, 0, none⟩, cap, rfl, h1, h2⟩
theorem owns_below {w w' : World} {base : Nat} {e : TypeId} {size : Nat} {v : Value} {n B : Nat} {xs : List Value} (h : w.ownsRow base e size v n xs) (hb : Below B w w') (hB : w.heap.size ≤ B) : w'.ownsRow base e size v n xs := by
  refine ⟨h.1, ?_⟩
  rcases h.2 with hn | ⟨g, cap, cur, rfl, hg, hh, r⟩
  · exact .inl hn
  · exact .inr ⟨g, cap, cur, rfl, hg, (hb.block g (Nat.lt_of_lt_of_le (lt_of_block hh) hB)).trans hh, r⟩
theorem owns_out {S : Nat → Prop} {w w' : World} {base : Nat} {e : TypeId} {size : Nat} {v : Value} {n : Nat} {xs : List Value} (h : w.ownsRow base e size v n xs) (hb : Out S w w') (hS : ∀ k, v.ownBlock = some k → ¬ S k) : w'.ownsRow base e size v n xs := by
  refine ⟨h.1, ?_⟩
  rcases h.2 with hn | ⟨g, cap, cur, rfl, hg, hh, r⟩
  · exact .inl hn
  · exact .inr ⟨g, cap, cur, rfl, hg, (hb.block g (lt_of_block hh) (hS g rfl)).trans hh, r⟩
theorem owns_type {w : World} {base b : Nat} {e t : TypeId} {size : Nat} {v : Value} {n : Nat} {xs : List Value} {vs : Array Value} {f : Nat × Nat} (h : w.ownsRow base e size v n xs) (hb : w.heap[b]? = some (.cells vs t f)) (ht : t ≠ e) : v.ownBlock ≠ some b := fun hv => by
  rcases h.2 with ⟨rfl, _⟩ | ⟨g, cap, cur, rfl, _, hh, _⟩
  · cases hv
  · simp [Value.ownBlock] at hv; subst hv; exact blk_ne hb hh ht rfl
theorem owns_types {w : World} {base base' : Nat} {e e' : TypeId} {size size' : Nat} {v v' : Value} {n n' : Nat} {xs xs' : List Value} (h : w.ownsRow base e size v n xs) (h' : w.ownsRow base' e' size' v' n' xs') (ht : e ≠ e') {k : Nat} (hv : v.ownBlock = some k) : v'.ownBlock ≠ some k := fun hv' => by
  rcases h.2 with ⟨rfl, _⟩ | ⟨g, cap, cur, rfl, _, hh, _⟩
  · cases hv
  · simp [Value.ownBlock] at hv; subst hv; exact owns_type h' hh ht hv'

/-- In w block ab is an arena of at most 'most' things: its slots, and those of them that are free. -/
structure ArenaIs (w : World) (ab : Nat) (most : Int) (vs vf : Value) (rs : List (Int × Int)) (fr : List Nat) : Prop where
  box : w.heap[ab]? = some (.cells #[.int .i64 most, vs, vf] 92 (0, 0))
  slots : w.ownsRow 0 95 3 vs rs.length (slV rs)
  free : w.ownsRow 0 3 1 vf fr.length (frV fr)
/-- the blocks of an arena -/
def arB (ab : Nat) (vs vf : Value) (k : Nat) : Prop := k = ab ∨ vs.ownBlock = some k ∨ vf.ownBlock = some k

theorem ArenaIs.below {w w' : World} {ab : Nat} {most : Int} {vs vf : Value} {rs : List (Int × Int)} {fr : List Nat} {B : Nat} (h : ArenaIs w ab most vs vf rs fr) (hb : Below B w w') (hB : w.heap.size ≤ B) : ArenaIs w' ab most vs vf rs fr :=
  ⟨(hb.block ab (Nat.lt_of_lt_of_le (lt_of_block h.box) hB)).trans h.box, owns_below h.slots hb hB, owns_below h.free hb hB⟩
theorem ArenaIs.out {S : Nat → Prop} {w w' : World} {ab : Nat} {most : Int} {vs vf : Value} {rs : List (Int × Int)} {fr : List Nat} (h : ArenaIs w ab most vs vf rs fr) (hb : Out S w w') (hS : ∀ k, arB ab vs vf k → ¬ S k) : ArenaIs w' ab most vs vf rs fr :=
  ⟨(hb.block ab (lt_of_block h.box) (hS ab (Or.inl rfl))).trans h.box, owns_out h.slots hb (fun k hk => hS k (Or.inr (Or.inl hk))), owns_out h.free hb (fun k hk => hS k (Or.inr (Or.inr hk)))⟩
theorem ArenaIs.lt {w : World} {ab : Nat} {most : Int} {vs vf : Value} {rs : List (Int × Int)} {fr : List Nat} (h : ArenaIs w ab most vs vf rs fr) {k : Nat} (hk : arB ab vs vf k) : k < w.heap.size := by
  rcases hk with rfl | hk | hk
  · exact lt_of_block h.box
  · exact (h.slots.lt k hk).2
  · exact (h.free.lt k hk).2
/-- one slot's cells -/
theorem ArenaIs.slot {w : World} {ab : Nat} {most : Int} {vs vf : Value} {rs : List (Int × Int)} {fr : List Nat} (h : ArenaIs w ab most vs vf rs fr) {k : Nat} (hk : k < rs.length) :
    ∃ g cap, vs = .slice (some ⟨g, 0, none⟩) rs.length cap ∧ w.cell? ⟨g, k * 3, none⟩ = some (.int .i64 (thingV (slAt rs k).1)) ∧ w.cell? ⟨g, k * 3 + 1, none⟩ = some (.int .i64 (slAt rs k).2) ∧ w.cell? ⟨g, k * 3 + 2, none⟩ = some (.bool (fullB (slAt rs k).1)) := by
  obtain ⟨g, cap, rfl, _, _⟩ := h.slots.form (by omega)
  obtain ⟨h1, h2, h3⟩ := slV_at hk
  exact ⟨g, cap, rfl, (h.slots.cellAt _ (by omega)).trans h1, (h.slots.cellAt _ (by omega)).trans h2, (h.slots.cellAt _ (by omega)).trans h3⟩

set_option maxHeartbeats 400000 in
theorem arNew_bad (most : Int) (w : World) (h : most < 1 ∨ 1000 < most) : Calls Tryd.prog 19 #[.int .i64 most] w fun e w' => e = .returned (.tuple #[.pointer none, .iface 22 (.int .i64 2)]) ∧ w' = w := by
  rcases h with h | h
  · go_enter Tryd.func19, Tryd.ntmps19
    go_wp2
    go_ret2
    exact ⟨rfl, rfl⟩
  · go_enter Tryd.func19, Tryd.ntmps19
    go_wp2
    go_ret2
    exact ⟨rfl, rfl⟩

set_option maxHeartbeats 400000 in
theorem arNew_any (most : Int) (w : World) (h1 : 1 ≤ most) (h2 : most ≤ 1000) : Calls Tryd.prog 19 #[.int .i64 most] w
    fun e w' => e = .returned (.tuple #[.pointer (some ⟨w.heap.size, 0, none⟩), .nilIface]) ∧ w' = w.alloc (.cells #[.int .i64 most, .slice none 0 0, .slice none 0 0] 92) := by
  go_enter Tryd.func19, Tryd.ntmps19
  go_wp2
  go_ret2
  exact ⟨rfl, rfl⟩
theorem arNew_is (w : World) (most : Int) : ArenaIs (w.alloc (.cells #[.int .i64 most, .slice none 0 0, .slice none 0 0] 92)) w.heap.size most (.slice none 0 0) (.slice none 0 0) [] [] :=
  ⟨heap_alloc_new w _, World.ownsRow_nil _ _ _ _, World.ownsRow_nil _ _ _ _⟩

set_option maxHeartbeats 400000 in
theorem arMany (ab : Nat) (most : Int) (vs vf : Value) (rs : List (Int × Int)) (fr : List Nat) (w : World) (h : ArenaIs w ab most vs vf rs fr) (hl : rs.length ≤ 1000) (hf : fr.length ≤ rs.length) :
    Calls Tryd.prog 27 #[.pointer (some ⟨ab, 0, none⟩)] w fun e w' => e = .returned (.int .i64 ((rs.length : Int) - fr.length)) ∧ ∃ n, w' = w.drewN n := by
  have c1 := blk_cell (j := 1) h.box rfl
  have c2 := blk_cell (j := 2) h.box rfl
  obtain ⟨ao, cap, rfl, _, _⟩ := owns_shape h.slots
  obtain ⟨ao', cap', rfl, _, _⟩ := owns_shape h.free
  clear h
  go_enter Tryd.func27, Tryd.ntmps27
  go_wp2_with fail
  go_quiet (fail)
  go_wp2
  go_ret
  exact ⟨by first | rfl | (rw [IntWalk.i64_in _ (by omega)]), ⟨_, rfl⟩⟩

theorem arHas_yes {rs : List (Int × Int)} {k : Nat} (hk : k < rs.length) (hf : fullB (slAt rs k).1 = true) : hasS rs k (slAt rs k).2 = true :=
  hasS_iff.2 ⟨k, rfl, hk, of_decide_eq_true hf, rfl⟩
theorem arHas_low {rs : List (Int × Int)} {i a : Int} (h : i < 0) : hasS rs i a = false := by
  rw [Bool.eq_false_iff]; intro e
  obtain ⟨k, rfl, _⟩ := hasS_iff.1 e; omega
theorem arHas_high {rs : List (Int × Int)} {i a : Int} (h : (rs.length : Int) ≤ i) : hasS rs i a = false := by
  rw [Bool.eq_false_iff]; intro e
  obtain ⟨k, rfl, hk, _⟩ := hasS_iff.1 e; omega
theorem arHas_none {rs : List (Int × Int)} {k : Nat} {a : Int} (h : fullB (slAt rs k).1 = false) : hasS rs k a = false := by
  rw [Bool.eq_false_iff]; intro e
  obtain ⟨j, hj, hk, h1, _⟩ := hasS_iff.1 e
  obtain rfl : k = j := by omega
  simp [fullB] at h; omega
theorem arHas_old {rs : List (Int × Int)} {k : Nat} {a : Int} (h : ((slAt rs k).2 == a) = false) : hasS rs k a = false := by
  rw [Bool.eq_false_iff]; intro e
  obtain ⟨j, hj, hk, h1, h2⟩ := hasS_iff.1 e
  obtain rfl : k = j := by omega
  simp [h2] at h

set_option maxRecDepth 4000 in
set_option maxHeartbeats 1000000 in
theorem arFind (ab : Nat) (most : Int) (vs vf : Value) (rs : List (Int × Int)) (fr : List Nat) (i a : Int) (w : World) (h : ArenaIs w ab most vs vf rs fr) :
    Calls Tryd.prog 39 #[.pointer (some ⟨ab, 0, none⟩), .agg #[.int .i64 i, .int .i64 a]] w
      fun e w' => Below w.heap.size w w' ∧ ((hasS rs i a = false ∧ e = .returned (.pointer none)) ∨ (hasS rs i a = true ∧ ∃ (k g cap : Nat), i = k ∧ k < rs.length ∧ vs = .slice (some ⟨g, 0, none⟩) rs.length cap ∧ e = .returned (.pointer (some ⟨g, k * 3, none⟩)))) := by
  have c1 := blk_cell (j := 1) h.box rfl
  have lb : ab < w.heap.size := lt_of_block h.box
  have HA : Hid (ArenaIs w ab most vs vf rs fr) := h
  clear h
  by_cases hi : i < 0
  · go_enter Tryd.func39, Tryd.ntmps39
    go_wp2_with fail
    go_quiet (fail)
    go_wp2
    go_ret
    exact ⟨below_drewN ((Below.refl _ _).alloc (Nat.le_refl _) _) _, Or.inl ⟨arHas_low hi, rfl⟩⟩
  have hd : decide (i < 0) = false := by simp; omega
  by_cases hi2 : (rs.length : Int) ≤ i
  · obtain ⟨ao, cap, rfl, _, _⟩ := owns_shape HA.out.slots
    go_enter Tryd.func39, Tryd.ntmps39
    go_wp2_with fail
    go_quiet (fail)
    go_wp2
    go_ret
    exact ⟨below_drewN ((Below.refl _ _).alloc (Nat.le_refl _) _) _, Or.inl ⟨arHas_high hi2, rfl⟩⟩
  obtain ⟨k, rfl⟩ : ∃ k : Nat, i = k := ⟨i.toNat, by omega⟩
  have hk : k < rs.length := by omega
  obtain ⟨g, cap, rfl, d0, d1, d2⟩ := HA.out.slot hk
  have lg : g < w.heap.size := World.block_lt_of_cell? w _ d0
  have q1 : (0 : Int) ≤ (k : Int) := by omega
  have q2 : (k : Int) < rs.length := by omega
  have q3 : decide ((rs.length : Int) ≤ (k : Int)) = false := by simp; omega
  cases hf : fullB (slAt rs k).1 with
  | false =>
    rw [hf] at d2
    go_enter Tryd.func39, Tryd.ntmps39
    go_wp2_with fail
    go_quiet (fail)
    go_wp2_with fail
    go_quiet (fail)
    go_wp2_with fail
    go_quiet (fail)
    go_wp2
    go_ret
    exact ⟨below_drewN (below_drewN (below_drewN ((Below.refl _ _).alloc (Nat.le_refl _) _) _) _) _, Or.inl ⟨arHas_none hf, rfl⟩⟩
  | true =>
    rw [hf] at d2
    cases ha : (slAt rs k).2 == a with
    | false =>
      go_enter Tryd.func39, Tryd.ntmps39
      go_wp2_with fail
      go_quiet (fail)
      go_wp2_with fail
      go_quiet (fail)
      go_wp2_with fail
      go_quiet (fail)
      go_wp2
      go_ret
      exact ⟨below_drewN (below_drewN (below_drewN ((Below.refl _ _).alloc (Nat.le_refl _) _) _) _) _, Or.inl ⟨arHas_old ha, rfl⟩⟩
    | true =>
      obtain rfl : (slAt rs k).2 = a := by simpa using ha
      go_enter Tryd.func39, Tryd.ntmps39
      go_wp2_with fail
      go_quiet (fail)
      go_wp2_with fail
      go_quiet (fail)
      go_wp2_with fail
      go_quiet (fail)
      go_wp2
      go_ret
      exact ⟨below_drewN (below_drewN (below_drewN ((Below.refl _ _).alloc (Nat.le_refl _) _) _) _) _, Or.inr ⟨arHas_yes hk hf, k, g, cap, rfl, hk, rfl, rfl⟩⟩

theorem thingV_full {t : Int} (h : 0 ≤ t) : thingV t = t := if_pos h
theorem fullB_full {t : Int} (h : 0 ≤ t) : fullB t = true := decide_eq_true h

set_option maxRecDepth 4000 in
set_option maxHeartbeats 1000000 in
theorem arGet (ab : Nat) (most : Int) (vs vf : Value) (rs : List (Int × Int)) (fr : List Nat) (i a : Int) (w : World) (h : ArenaIs w ab most vs vf rs fr) :
    Calls Tryd.prog 23 #[.pointer (some ⟨ab, 0, none⟩), .agg #[.int .i64 i, .int .i64 a]] w
      fun e w' => Below w.heap.size w w' ∧ ((hasS rs i a = false ∧ e = .returned (.tuple #[.int .i64 0, .iface 22 (.int .i64 7)])) ∨ (hasS rs i a = true ∧ ∃ k : Nat, i = k ∧ k < rs.length ∧ 0 ≤ (slAt rs k).1 ∧ (slAt rs k).2 = a ∧ e = .returned (.tuple #[.int .i64 (slAt rs k).1, .nilIface]))) := by
  have HA : Hid (ArenaIs w ab most vs vf rs fr) := h
  clear h
  go_enter Tryd.func23, Tryd.ntmps23
  go_wp2_with fail
  refine (arFind ab most vs vf rs fr i a _ (HA.out.below ((Below.refl _ _).alloc (Nat.le_refl _) _) (Nat.le_refl _))).mono ?_
  rintro e w1 ⟨hb, ⟨hh, rfl⟩ | ⟨hh, k, g, cap, rfl, hk, rfl, rfl⟩⟩
  · have HB : Hid (Below w.heap.size w w1) := ((Below.refl _ _).alloc (Nat.le_refl _) _).trans (hb.mono (by simp))
    have HH : Hid (hasS rs i a = false) := hh
    clear hb hh
    go_wp2
    go_ret2
    exact ⟨HB.out, Or.inl ⟨HH.out, rfl⟩⟩
  · have HB : Hid (Below w.heap.size w w1) := ((Below.refl _ _).alloc (Nat.le_refl _) _).trans (hb.mono (by simp))
    have HH : Hid (hasS rs k a = true) := hh
    clear hb hh
    obtain ⟨j, hj, hk', hf, ha⟩ := hasS_iff.1 HH.out
    obtain rfl : k = j := by omega
    obtain ⟨g', cap', hv, d0, d1, d2⟩ := (HA.out.below HB.out (Nat.le_refl _)).slot hk
    simp only [Value.slice.injEq, Option.some.injEq, Addr.mk.injEq, and_true, true_and] at hv
    obtain ⟨rfl, rfl⟩ := hv
    rw [thingV_full hf] at d0
    clear d1 d2 hj hk'
    have HF : Hid (0 ≤ (slAt rs k).1 ∧ (slAt rs k).2 = a) := ⟨hf, ha⟩
    clear hf ha
    go_wp2
    go_ret2
    exact ⟨HB.out, Or.inr ⟨HH.out, k, rfl, hk, HF.out.1, HF.out.2, rfl⟩⟩
end Go.Proofs.YtgocmaijpihakaaDoor
