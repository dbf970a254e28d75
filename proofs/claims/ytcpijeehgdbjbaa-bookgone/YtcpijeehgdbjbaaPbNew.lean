/-
  A book as one thing, and what book.New and Many return, over this seat's translation. Conditions stand in each theorem.
-/
import Derived.Test.YtcpijeehgdbjbaaPbIns
import Derived.Test.YtcpijeehgdbjbaaPbNum
namespace Go.Proofs.Ytcpijeehgdbjbaa
open Go.RowKit

/-- all that is to be known of a book in memory -/
structure BkS where
  ab : Nat
  mb : Nat
  n : Nat
  vs : Value
  vf : Value
  v0 : Value
  v1 : Value
  rs : List Sot
  fr : List Nat
  S : Nat → List Ly
def BkAt (w : World) (bb : Nat) (b : BkS) : Prop := BookAt w bb b.ab b.mb b.n b.vs b.vf b.v0 b.v1 b.rs b.fr b.S
def BkS.foot (bb : Nat) (b : BkS) : Nat → Prop := pbB bb b.ab b.mb b.vs b.vf b.v0 b.v1
/-- a book that is in order, in memory: m: how many steps there were -/
structure Bk (w : World) (bb m : Nat) (b : BkS) : Prop where
  at_ : BkAt w bb b
  ok : Pb m b.rs b.fr b.S
  small : b.n ≤ m
  steps : m ≤ 900
theorem Bk.below {w w' : World} {bb m B : Nat} {b : BkS} (h : Bk w bb m b) (hb : Below B w w') (hB : w.heap.size ≤ B) : Bk w' bb m b := ⟨BookAt.below h.at_ hb hB, h.ok, h.small, h.steps⟩
theorem Bk.out {T : Nat → Prop} {w w' : World} {bb m : Nat} {b : BkS} (h : Bk w bb m b) (ho : Out T w w') (hT : ∀ k, b.foot bb k → ¬ T k) : Bk w' bb m b := ⟨BookAt.out h.at_ ho hT, h.ok, h.small, h.steps⟩
theorem Bk.more {w : World} {bb m m' : Nat} {b : BkS} (h : Bk w bb m b) (hm : m ≤ m') (hs : m' ≤ 900) : Bk w bb m' b := ⟨h.at_, h.ok.more hm, Nat.le_trans h.small hm, hs⟩
theorem Bk.lt {w : World} {bb m : Nat} {b : BkS} (h : Bk w bb m b) {k : Nat} (hk : b.foot bb k) : k < w.heap.size := BookAt.lt h.at_ hk
/-- what a call does that turns the book b into b': nothing else is changed -/
def Goes (w w' : World) (bb m : Nat) (b b' : BkS) : Prop := Bk w' bb m b' ∧ Out (b.foot bb) w w' ∧ Went w (b.foot bb) (b'.foot bb)
theorem Goes.stay {w w' : World} {bb m m' : Nat} {b : BkS} (h : Bk w bb m b) (hb : Below w.heap.size w w') (hm : m ≤ m') (hs : m' ≤ 900) : Goes w w' bb m' b b := ⟨(h.below hb (Nat.le_refl _)).more hm hs, Out.of_below hb (Nat.le_refl _), Went.refl _ _⟩

theorem out_drew {S : Nat → Prop} {w w' : World} (h : Out S w w') : Out S w w'.drew := ⟨h.os, h.tape, h.output, h.size, h.block⟩
theorem out_alloc {S : Nat → Prop} {w w' : World} (h : Out S w w') (o : Obj) : Out S w (w'.alloc o) := h.trans (Out.of_below (bel1 w' o) (Nat.le_refl _)) (Went.refl _ _)
theorem out_then {S : Nat → Prop} {w w1 w2 : World} (h : Out S w w1) (h1 : Out S w1 w2) : Out S w w2 := h.trans h1 (Went.refl _ _)
theorem out_setNew {S : Nat → Prop} {w w' : World} {p : Addr} {u : Value} (h : Out S w w') (hp : w.heap.size ≤ p.block) : Out S w (w'.setCell p u) := h.trans (out_set w' p u) (fun k hk => Or.inr (by rw [show k = p.block from hk]; exact hp))
def BkS.none_ (k : Nat) : BkS := ⟨k, k + 1, 0, .slice none 0 0, .slice none 0 0, .slice none 0 0, .slice none 0 0, [], [], fun _ => []⟩

set_option maxHeartbeats 1000000 in
theorem pbNew (w : World) : Calls Try.prog 17 #[] w fun e W' => e = .returned (.pointer (some ⟨w.heap.size + 2, 0, none⟩)) ∧ Bk W' (w.heap.size + 2) 0 (BkS.none_ w.heap.size) ∧ Below w.heap.size w W' := by
  have hmm := @run_makeMap Try.prog
  go_enter Try.func17, Try.ntmps17
  go_wp2_with fail
  refine (oaNew _).mono ?_
  rintro e w1 ⟨rfl, rfl⟩
  go_wp2
  go_ret
  have h1 := oaNew_is w 100
  have hb1 := bel1 w (.cells #[.int .i64 100, .slice none 0 0, .slice none 0 0] 96)
  have hs1 : (w.alloc (.cells #[.int .i64 100, .slice none 0 0, .slice none 0 0] 96)).heap.size = w.heap.size + 1 := by simp
  generalize w.alloc (.cells #[.int .i64 100, .slice none 0 0, .slice none 0 0] 96) = w1 at h1 hb1 hs1 ⊢
  have hm : PlMap (w1.alloc (.map #[] 0)) (w.heap.size + 1) 0 (fun _ => []) := by
    have := World.ownsMap_made (H := Unit) w1 Try.prog 3 plR
    rw [hs1] at this
    exact ⟨_, this, (fun _ _ x hx => (by cases hx)), fun _ _ => rfl⟩
  have hb2 := bel1 w1 (.map #[] 0)
  have hs2 : (w1.alloc (.map #[] 0)).heap.size = w.heap.size + 2 := by simp; omega
  have h2 := h1.below hb2 (Nat.le_refl _)
  generalize w1.alloc (.map #[] 0) = w2 at hm hb2 hs2 h2 ⊢
  have hx := heap_alloc_new w2 (.cells #[.pointer (some ⟨w.heap.size, 0, none⟩), .map (some (w.heap.size + 1)), .slice none 0 0, .slice none 0 0] 74)
  have hb3 := bel1 w2 (.cells #[.pointer (some ⟨w.heap.size, 0, none⟩), .map (some (w.heap.size + 1)), .slice none 0 0, .slice none 0 0] 74)
  refine ⟨by rw [← hs2]; rfl, ?_, ?_⟩
  · refine ⟨⟨by rw [hs2] at hx; exact hx, h2.below hb3 (Nat.le_refl _), hm.same (hb3.block _ hm.lt), World.ownsRow_nil _ _ _ _, World.ownsRow_nil _ _ _ _, fun k hk => by cases hk⟩, Pb.start 0, Nat.le_refl _, by decide⟩
  · exact bel_then (bel_then hb1 hb2) hb3
theorem new_own (w : World) {k : Nat} (h : (BkS.none_ w.heap.size).foot (w.heap.size + 2) k) : w.heap.size ≤ k := by
  rcases h with rfl | (rfl | h | h) | rfl | h | h
  · omega
  · exact Nat.le_refl _
  · cases h
  · cases h
  · exact Nat.le_succ _
  · cases h
  · cases h

set_option maxHeartbeats 1000000 in
theorem pbMany (bb m : Nat) (b : BkS) (w : World) (h : Bk w bb m b) : Calls Try.prog 21 #[.pointer (some ⟨bb, 0, none⟩)] w fun e W' => e = .returned (.int .i64 ((b.S 0).length + (b.S 1).length : Nat)) ∧ Below w.heap.size w W' := by
  have hc : w.cell? ⟨bb, 0, none⟩ = some (.pointer (some ⟨b.ab, 0, none⟩)) := blk_cell (j := 0) h.at_.box rfl
  have H : Hid (Bk w bb m b) := h
  clear h
  go_enter Try.func21, Try.ntmps21
  go_wp2_with fail
  refine (oaMany b.ab 100 b.vs b.vf b.rs b.fr _ _ H.out.at_.ar (by have := H.out.ok.so.small; have := H.out.steps; omega) rfl H.out.ok.so.cnt).mono ?_
  rintro e w1 ⟨rfl, n, rfl⟩
  go_wp2
  go_ret
  exact ⟨by rw [← H.out.ok.cnt]; rfl, below_drewN (Below.refl _ _) n⟩
end Go.Proofs.Ytcpijeehgdbjbaa
