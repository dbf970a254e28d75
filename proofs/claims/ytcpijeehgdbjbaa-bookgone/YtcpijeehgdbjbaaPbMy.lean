/-
  A book of a call's own; what Add and Cancel do to it. Conditions stand in each theorem.
-/
import Derived.Test.YtcpijeehgdbjbaaPbKept
namespace Go.Proofs.Ytcpijeehgdbjbaa
open Go.RowKit

/-- a book that was made behind w0, and nothing of w0 has changed -/
structure MyBk (w0 w : World) (bb m : Nat) (b : BkS) : Prop where
  bk : Bk w bb m b
  bel : Below w0.heap.size w0 w
  mine : ∀ k, b.foot bb k → w0.heap.size ≤ k
theorem bel_of_out {S : Nat → Prop} {w0 w w' : World} (h : Out S w w') (hS : ∀ k, S k → w0.heap.size ≤ k) (hb : Below w0.heap.size w0 w) : Below w0.heap.size w0 w' :=
  hb.trans ⟨h.os, h.tape, h.output, h.size, fun k hk => h.block k (Nat.lt_of_lt_of_le hk hb.size) (fun e => by have := hS k e; omega)⟩
theorem MyBk.goes {w0 w w' : World} {bb m m' : Nat} {b b' : BkS} (h : MyBk w0 w bb m b) (hg : Goes w w' bb m' b b') : MyBk w0 w' bb m' b' :=
  ⟨hg.1, bel_of_out hg.2.1 h.mine h.bel, fun k hk => (hg.2.2 k hk).elim (h.mine k) (fun e => Nat.le_trans h.bel.size e)⟩
theorem MyBk.below {w0 w w' : World} {bb m : Nat} {b : BkS} (h : MyBk w0 w bb m b) (hb : Below w.heap.size w w') : MyBk w0 w' bb m b :=
  ⟨h.bk.below hb (Nat.le_refl _), bel_then h.bel hb, h.mine⟩
theorem MyBk.start {w0 w' : World} (h : Bk w' (w0.heap.size + 2) 0 (BkS.none_ w0.heap.size)) (hb : Below w0.heap.size w0 w') : MyBk w0 w' (w0.heap.size + 2) 0 (BkS.none_ w0.heap.size) :=
  ⟨h, hb, fun _ hk => new_own w0 hk⟩

/-- Add of an order that may lie -/
theorem pbAdd_yes (bb m : Nat) (b : BkS) (o : Ord) (w : World) (h : Bk w bb m b) (hm : m + 1 ≤ 900) (hw : (Lit.int .i64 o.id).wf = true) (hs : sideP o.side = true) (hid : ¬ o.id < 1) (hr : rightB (lieP o).price (lieP o).qty = true) (hno : ∀ s, s < 2 → ∀ x ∈ b.S s, x.o.id ≠ o.id) (hc : (b.S 0).length + (b.S 1).length < 100) :
    Calls Try.prog 19 #[.pointer (some ⟨bb, 0, none⟩), o.agg] w fun e W' => e = .returned .nilIface ∧ ∃ (b' : BkS) (s k : Nat) (a : Int), s < 2 ∧ o.side = (s : Int) + 1 ∧ b'.S = upS b.S s (insAt (rankN (lieP o) ((b.S s).map Ly.o)) ⟨k, a, lieP o⟩ (b.S s)) ∧ Goes w W' bb (m + 1) b b' := by
  refine (pbAdd bb m b o w h hm hw).mono ?_
  rintro e W' (⟨h1, _⟩ | ⟨_, _, h1, _⟩ | ⟨_, _, _, ⟨s, h2, x, hx, he⟩, _⟩ | ⟨_, _, _, _, h1, _⟩ | ⟨_, _, _, _, _, h1, h2⟩)
  · rcases h1 with h1 | h1
    · rw [hs] at h1; cases h1
    · exact absurd h1 hid
  · rw [hr] at h1; cases h1
  · exact absurd he (hno s h2 x hx)
  · omega
  · exact ⟨h1, h2⟩

/-- Add of any order, over a book of the call's own -/
theorem pbAdd_my {w0 w : World} {bb m : Nat} {b : BkS} (h : MyBk w0 w bb m b) (o : Ord) (hm : m + 1 ≤ 900) (hw : (Lit.int .i64 o.id).wf = true) :
    Calls Try.prog 19 #[.pointer (some ⟨bb, 0, none⟩), o.agg] w fun e W' =>
      (∃ n, e = .returned (.iface 55 (.int .i64 n)) ∧ Goes w W' bb (m + 1) b b ∧ MyBk w0 W' bb (m + 1) b)
      ∨ (e = .returned .nilIface ∧ ∃ (b' : BkS) (s n : Nat) (x : Ly), s < 2 ∧ x.o.id = o.id ∧ (∀ t, t < 2 → ∀ y ∈ b.S t, y.o.id ≠ x.o.id) ∧ b'.S = upS b.S s (insAt n x (b.S s)) ∧ Goes w W' bb (m + 1) b b' ∧ MyBk w0 W' bb (m + 1) b') := by
  refine (pbAdd bb m b o w h.bk hm hw).mono ?_
  rintro e W' (⟨_, rfl, hg⟩ | ⟨_, _, _, rfl, hg⟩ | ⟨_, _, _, _, rfl, hg⟩ | ⟨_, _, _, _, _, rfl, hg⟩ | ⟨_, _, _, hno, _, rfl, b', s, k, a, hs, _, hS, hg⟩)
  · exact Or.inl ⟨1, rfl, hg, h.goes hg⟩
  · exact Or.inl ⟨2, rfl, hg, h.goes hg⟩
  · exact Or.inl ⟨9, rfl, hg, h.goes hg⟩
  · exact Or.inl ⟨12, rfl, hg, h.goes hg⟩
  · exact Or.inr ⟨rfl, b', s, _, ⟨k, a, lieP o⟩, hs, lieP_id o, fun t ht y hy e => hno t ht y hy (by rw [e]; exact lieP_id o), hS, hg, h.goes hg⟩
/-- Cancel of an order that was added behind -/
theorem pbCancel_my {w0 w : World} {bb m : Nat} {b : BkS} {S : Nat → List Ly} {A A' : List Int} {id : Int} (h : MyBk w0 w bb m b) (hk : Kept S b.S A) (hm : m + 1 ≤ 900) (hid : id ∈ A) (hA' : ∀ j, j ∈ A' ↔ (j ∈ A ∧ j ≠ id)) :
    Calls Try.prog 22 #[.pointer (some ⟨bb, 0, none⟩), .int .i64 id] w fun e W' => ∃ (o : Ord) (b' : BkS), e = .returned (.tuple #[o.agg, .nilIface]) ∧ Kept S b'.S A' ∧ Goes w W' bb (m + 1) b b' ∧ MyBk w0 W' bb (m + 1) b' := by
  obtain ⟨s, hs, x, hx, rfl⟩ := hk.lie id hid
  refine (cancel_yes bb m s b x w h.bk hm hs hx).mono ?_
  rintro e W' ⟨rfl, b', ⟨i, hi, hix, hS⟩, hg⟩
  exact ⟨x.o, b', rfl, by rw [hS]; exact hk.gone h.bk.ok hs hi hix hid hA', hg, h.goes hg⟩
/-- since w the book b, now b', has changed, and nothing else that was there -/
def Since (w W : World) (bb : Nat) (b b' : BkS) : Prop := Out (b.foot bb) w W ∧ Went w (b.foot bb) (b'.foot bb)
theorem Since.refl (w : World) (bb : Nat) (b : BkS) : Since w w bb b b := ⟨Out.refl _ _, Went.refl _ _⟩
theorem Since.goes {w W W' : World} {bb m : Nat} {b b1 b2 : BkS} (h : Since w W bb b b1) (hg : Goes W W' bb m b1 b2) : Since w W' bb b b2 :=
  ⟨h.1.trans hg.2.1 h.2, fun k hk => (hg.2.2 k hk).elim (h.2 k) (fun e => Or.inr (Nat.le_trans h.1.size e))⟩
theorem Since.below {w W W' : World} {bb : Nat} {b b1 : BkS} (h : Since w W bb b b1) (hb : Below W.heap.size W W') : Since w W' bb b b1 :=
  ⟨h.1.trans (Out.of_below (S := b1.foot bb) hb (Nat.le_refl _)) h.2, h.2⟩
end Go.Proofs.Ytcpijeehgdbjbaa
