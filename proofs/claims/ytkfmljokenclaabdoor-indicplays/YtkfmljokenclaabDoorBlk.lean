/-
  Small laws on blocks of memory and on rows that are owned, over any program. Conditions stand in each theorem.
-/
import Derived.Test.YtkfmljokenclaabDoorArSl
import Derived.WalkSpells
import Derived.WalkLawsBesides
import Derived.Handy
import Derived.BigQuiet
import Derived.OwnWalk
import Derived.OneCell
import Derived.Deep.QuietTactic
import Derived.Deep.AppendLies
import Derived.Deep.RegionHeld3
import Derived.Deep.DrawnRows
namespace Go.Proofs.YtkfmljokenclaabDoor
open Go.RowKit

theorem blk_cell {w : World} {b j : Nat} {vs : Array Value} {t : TypeId} {v : Value} (h : w.heap[b]? = some (.cells vs t (0, 0))) (hj : vs[j]? = some v) : w.cell? ⟨b, j, none⟩ = some v := (cell_of_row w b j vs t (0, 0) h).trans hj
theorem blk_free {w : World} {b j : Nat} {vs : Array Value} {t : TypeId} (h : w.heap[b]? = some (.cells vs t (0, 0))) : w.frozen? ⟨b, j, none⟩ = false := frozen_of_row w b j vs t h
theorem blk_set {w : World} {b j : Nat} {vs : Array Value} {t : TypeId} (u : Value) (h : w.heap[b]? = some (.cells vs t (0, 0))) : (w.setCell ⟨b, j, none⟩ u).heap[b]? = some (.cells (vs.setIfInBounds j u) t (0, 0)) := heap_setCell_same w b j vs t u h
theorem blk_ne {w : World} {b g : Nat} {vs us : Array Value} {t s : TypeId} {f f' : Nat × Nat} (h : w.heap[b]? = some (.cells vs t f)) (h' : w.heap[g]? = some (.cells us s f')) (hn : t ≠ s) : b ≠ g := fun e => by
  subst e; rw [h] at h'; injection h' with h'; injection h' with _ h' _; exact hn h'
theorem owns_shape {w : World} {base : Nat} {e : TypeId} {size : Nat} {v : Value} {n : Nat} {xs : List Value} (h : w.ownsRow base e size v n xs) : ∃ (ao : Option Addr) (cap : Nat), v = .slice ao n cap ∧ n ≤ cap ∧ cap ≤ maxLen := by
  rcases h.2 with ⟨rfl, rfl⟩ | ⟨g, cap, cur, rfl, _, _, h1, h2, _⟩
  · exact ⟨none, 0, rfl, Nat.le_refl _, Nat.zero_le _⟩
  · exact ⟨some ⟨g, 0, none⟩, cap, rfl, h1, h2⟩
theorem owns_below {w w' : World} {base : Nat} {e : TypeId} {size : Nat} {v : Value} {n B : Nat} {xs : List Value} (h : w.ownsRow base e size v n xs) (hb : Below B w w') (hB : w.heap.size ≤ B) : w'.ownsRow base e size v n xs := by
  refine ⟨h.1, ?_⟩
  rcases h.2 with hn | ⟨g, cap, cur, rfl, hg, hh, r⟩
  · exact .inl hn
  · exact .inr ⟨g, cap, cur, rfl, hg, (hb.block g (Nat.lt_of_lt_of_le (lt_of_block hh) hB)).trans hh, r⟩
theorem owns_out {S : Nat → Prop} {w w' : World} {base : Nat} {e : TypeId} {size : Nat} {v : Value} {n : Nat} {xs : List Value} (h : w.ownsRow base e size v n xs) (hb : Out S w w') (hS : ∀ k, v.ownBlock = some k → ¬ S k) : w'.ownsRow base e size v n xs := by
  refine ⟨h.1, ?_⟩
  rcases h.2 with hn | ⟨g, cap, cur, rfl, hg, hh, r⟩
  · exact .inl hn
  · exact .inr ⟨g, cap, cur, rfl, hg, (hb.block g (lt_of_block hh) (hS g rfl)).trans hh, r⟩
theorem owns_type {w : World} {base b : Nat} {e t : TypeId} {size : Nat} {v : Value} {n : Nat} {xs : List Value} {vs : Array Value} {f : Nat × Nat} (h : w.ownsRow base e size v n xs) (hb : w.heap[b]? = some (.cells vs t f)) (ht : t ≠ e) : v.ownBlock ≠ some b := fun hv => by
  rcases h.2 with ⟨rfl, _⟩ | ⟨g, cap, cur, rfl, _, hh, _⟩
  · cases hv
  · simp [Value.ownBlock] at hv; subst hv; exact blk_ne hb hh ht rfl
theorem owns_types {w : World} {base base' : Nat} {e e' : TypeId} {size size' : Nat} {v v' : Value} {n n' : Nat} {xs xs' : List Value} (h : w.ownsRow base e size v n xs) (h' : w.ownsRow base' e' size' v' n' xs') (ht : e ≠ e') {k : Nat} (hv : v.ownBlock = some k) : v'.ownBlock ≠ some k := fun hv' => by
  rcases h.2 with ⟨rfl, _⟩ | ⟨g, cap, cur, rfl, _, hh, _⟩
  · cases hv
  · simp [Value.ownBlock] at hv; subst hv; exact owns_type h' hh ht hv'
theorem owns_len {w : World} {base : Nat} {e : TypeId} {size : Nat} {a : Option Addr} {n' cap n : Nat} {xs : List Value} (h : w.ownsRow base e size (.slice a n' cap) n xs) : n' = n := by
  rcases h.2 with ⟨h', h0⟩ | ⟨g, cap', cur, h', _⟩
  · injection h' with _ h1 _; omega
  · injection h' with _ h1 _
theorem owns_less {w : World} {base : Nat} {e : TypeId} {g n cap : Nat} {xs : List Value} {x : Value} (h : w.ownsRow base e 1 (.slice (some ⟨g, 0, none⟩) (n + 1) cap) (n + 1) (xs ++ [x])) (hn : xs.length = n) : w.ownsRow base e 1 (.slice (some ⟨g, 0, none⟩) n cap) n xs := by
  rcases h.2 with ⟨h', _⟩ | ⟨g', cap', cur, h', hb, hg, hnc, hcm, hcs, ht⟩
  · simp at h'
  · simp only [Value.slice.injEq, Option.some.injEq, Addr.mk.injEq, and_true, true_and] at h'
    obtain ⟨rfl, rfl⟩ := h'
    refine ⟨by omega, .inr ⟨g, cap, cur, rfl, hb, hg, by omega, hcm, hcs, ?_⟩⟩
    have := congrArg (List.take n) ht
    rw [List.take_take, ← hn, List.take_left] at this
    rw [← hn]
    simpa using this
theorem out_set (w : World) (a : Addr) (u : Value) : Out (fun j => j = a.block) w (w.setCell a u) := ⟨rfl, rfl, rfl, by simp, fun j _ hj => Below.heap_setCell _ _ _ _ (fun e => hj e)⟩
theorem heap_drewN (w : World) : ∀ n, (w.drewN n).heap = w.heap := fun n => by
  have : ∀ n (w' : World), (w'.drewN n).heap = w'.heap := fun n => by
    induction n with
    | zero => intro w'; rfl
    | succ n ih => intro w'; exact ih _
  exact this n w
theorem blk_drewN {w : World} {b : Nat} {o : Obj} (n : Nat) (h : w.heap[b]? = some o) : (w.drewN n).heap[b]? = some o := by rw [heap_drewN]; exact h
theorem blk_below {w w' : World} {b B : Nat} {o : Obj} (h : w.heap[b]? = some o) (hb : Below B w w') (hB : w.heap.size ≤ B) : w'.heap[b]? = some o := (hb.block b (Nat.lt_of_lt_of_le (lt_of_block h) hB)).trans h
theorem blk_out {S : Nat → Prop} {w w' : World} {b : Nat} {o : Obj} (h : w.heap[b]? = some o) (hb : Out S w w') (hS : ¬ S b) : w'.heap[b]? = some o := (hb.block b (lt_of_block h) hS).trans h
theorem bel1 (w : World) (o : Obj) : Below w.heap.size w (w.alloc o) := (Below.refl _ _).alloc (Nat.le_refl _) o
theorem bel2 (w : World) (o o' : Obj) : Below w.heap.size w ((w.alloc o).alloc o') := ((Below.refl _ _).alloc (Nat.le_refl _) o).alloc (by simp) o'
theorem bel_then {w w1 w2 : World} (h : Below w.heap.size w w1) (h1 : Below w1.heap.size w1 w2) : Below w.heap.size w w2 := h.trans (h1.mono h.size)
theorem two_old (w : World) (o o' : Obj) : ((w.alloc o).alloc o').heap[w.heap.size]? = some o := (Below.heap_alloc (w.alloc o) o' w.heap.size (by simp)).trans (heap_alloc_new w o)
theorem two_new (w : World) (o o' : Obj) : ((w.alloc o).alloc o').heap[w.heap.size + 1]? = some o' := by
  have := heap_alloc_new (w.alloc o) o'
  rwa [show (w.alloc o).heap.size = w.heap.size + 1 by simp] at this
theorem drew_heap (w : World) : w.drew.heap = w.heap := rfl
theorem out_drew {S : Nat → Prop} {w w' : World} (h : Out S w w') : Out S w w'.drew := ⟨h.os, h.tape, h.output, h.size, h.block⟩
theorem out_alloc {S : Nat → Prop} {w w' : World} (h : Out S w w') (o : Obj) : Out S w (w'.alloc o) := h.trans (Out.of_below (bel1 w' o) (Nat.le_refl _)) (Went.refl _ _)
theorem out_then {S : Nat → Prop} {w w1 w2 : World} (h : Out S w w1) (h1 : Out S w1 w2) : Out S w w2 := h.trans h1 (Went.refl _ _)
theorem out_setNew {S : Nat → Prop} {w w' : World} {p : Addr} {u : Value} (h : Out S w w') (hp : w.heap.size ≤ p.block) : Out S w (w'.setCell p u) := h.trans (out_set w' p u) (fun k hk => Or.inr (by rw [show k = p.block from hk]; exact hp))
theorem out_setIn {S : Nat → Prop} {w w' : World} {p : Addr} {u : Value} (h : Out S w w') (hp : S p.block) : Out S w (w'.setCell p u) := h.trans (out_set w' p u) (fun k hk => Or.inl (by rw [show k = p.block from hk]; exact hp))
end Go.Proofs.YtkfmljokenclaabDoor
