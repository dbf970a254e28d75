/-
  What lies in memory between two trades of the program's Meets (8.2), and what each of its steps leaves of it. Conditions stand in each theorem.
-/
import Derived.Test.YtjdkagafdnchhaaGreatDoorLG
import Derived.Test.YtjdkagafdnchhaaGreatDoorLJ
import Derived.Test.YtjdkagafdnchhaaGreatDoorLM
namespace Go.Proofs.YtjdkagafdnchhaaGreatDoor
open Go.RowKit

/-- what function values keep in memory: St W ts D: in W prices ts were told, and that lies in the blocks D -/
structure StE (St : World → List Int → (Nat → Prop) → Prop) : Prop where
  keep : ∀ {w w' ts D} {S : Nat → Prop}, St w ts D → Out S w w' → (∀ j, D j → ¬ S j) → St w' ts D
  far : ∀ {w ts D}, St w ts D → ∀ j, D j → j < w.heap.size ∧ ∀ vs t fr, w.heap[j]? = some (.cells vs t fr) → t ≠ 41 ∧ t ≠ 115
structure AskE (g : Nat) (fa la : Array Value) (al : List Int → Int → Bool) (St : World → List Int → (Nat → Prop) → Prop) : Prop where
  enters : ∀ args w, (callFunc g args).run Tryz.prog w = .ok (.enter g args) w
  tells : ∀ {W ts D}, St W ts D → ∀ p : Int, 1 ≤ p → p ≤ 1000000 → Calls Tryz.prog g (fa ++ #[.int .i64 p] ++ la) W fun e W' => e = .returned (.bool (al ts p)) ∧ Below W.heap.size W W'
structure TellE (g : Nat) (fa la : Array Value) (St : World → List Int → (Nat → Prop) → Prop) : Prop where
  enters : ∀ args w, (callFunc g args).run Tryz.prog w = .ok (.enter g args) w
  tells : ∀ {W ts D}, St W ts D → ts.length ≤ 1000 → ∀ p : Int, 1 ≤ p → p ≤ 1000000 → Calls Tryz.prog g (fa ++ #[.int .i64 p] ++ la) W fun e W' => e = .returned (.tuple #[]) ∧ ∃ D', St W' (ts ++ [p]) D' ∧ Out D W W' ∧ ∀ j, D' j → D j ∨ W.heap.size ≤ j

theorem wil_far {o x : Ord} (hs : o.side = 1 ∨ o.side = 2) : wilP x.price o = !farB o x := by
  unfold wilP farB
  rcases hs with h | h
  · rw [h]
    by_cases hk : o.kind = 2
    · simp [hk]
    · simp [hk]
      rw [← decide_not]
      exact decide_eq_decide.2 (by omega)
  · rw [h]
    by_cases hk : o.kind = 2
    · simp [hk]
    · simp [hk]
      rw [← decide_not]
      exact decide_eq_decide.2 (by omega)

/-- the trade of two orders at the second one's price -/
theorem cpBetween (o x : Ord) (w : World) (hs : o.side = 1 ∨ o.side = 2) :
    Calls Tryz.prog 144 #[.agg #[.int .i64 o.id, .int .i64 o.side, .int .i64 o.kind, .int .i64 o.price, .int .i64 o.qty], .agg #[.int .i64 x.id, .int .i64 x.side, .int .i64 x.kind, .int .i64 x.price, .int .i64 x.qty], .int .i64 x.price] w
      fun e w' => e = .returned (.agg #[.int .i64 (mfill o x (min o.qty x.qty)).buyer, .int .i64 (mfill o x (min o.qty x.qty)).seller, .int .i64 (mfill o x (min o.qty x.qty)).price, .int .i64 (mfill o x (min o.qty x.qty)).qty]) ∧ Below w.heap.size w w' := by
  rcases hs with h | h
  · have e : mfill o x (min o.qty x.qty) = ⟨o.id, x.id, x.price, min o.qty x.qty⟩ := if_pos h
    rw [e]
    exact cpBetween1 o x x.price w (by rw [h]; rfl)
  · have e : mfill o x (min o.qty x.qty) = ⟨x.id, o.id, x.price, min x.qty o.qty⟩ := by unfold mfill; rw [if_neg (by omega), Int.min_comm]
    rw [e]
    exact cpBetween2 o x x.price w (by rw [h]; rfl)

structure Mp (w W : World) (bb m ob rb B : Nat) (vx vf : Value) (b b' : BkS) (X : List Ord) (o : Ord) (s : MS) (St : World → List Int → (Nat → Prop) → Prop) (D0 D : Nat → Prop) : Prop where
  old : w.heap.size ≤ ob ∧ w.heap.size ≤ rb ∧ ob ≠ rb ∧ ob < B ∧ rb < B
  row : W.ownsRow B 41 5 vx X.length (oV X)
  box : OrdAt W ob (leftO o s.q)
  res : ZBox W rb
  bk : Bk W bb m b'
  lnk : Lnk b'.S s.L
  fils : W.ownsRow w.heap.size 115 4 vf s.fs.length (fV s.fs)
  told : St W s.ts D
  out : Out (fun j => b.foot bb j ∨ D0 j) w W
  went : Went w (b.foot bb) (b'.foot bb)
  dees : ∀ j, D j → D0 j ∨ w.heap.size ≤ j
  apart : ∀ j, D j → ¬ b'.foot bb j
section
variable {w W W' : World} {bb m m' ob rb B : Nat} {vx vf : Value} {b b' b2 : BkS} {X : List Ord} {o x : Ord} {s : MS} {St : World → List Int → (Nat → Prop) → Prop} {D0 D : Nat → Prop}
theorem Mp.below (hF : StE St) (h : Mp w W bb m ob rb B vx vf b b' X o s St D0 D) (hb : Below W.heap.size W W') : Mp w W' bb m ob rb B vx vf b b' X o s St D0 D :=
  ⟨h.old, owns_below h.row hb (Nat.le_refl _), blk_below h.box hb (Nat.le_refl _), blk_below h.res hb (Nat.le_refl _), h.bk.below hb (Nat.le_refl _), h.lnk, owns_below h.fils hb (Nat.le_refl _), hF.keep h.told (Out.of_below (S := fun _ => False) hb (Nat.le_refl _)) (fun _ _ e => e), out_then h.out (Out.of_below hb (Nat.le_refl _)), h.went, h.dees, h.apart⟩
/-- a fill laid onto the row -/
theorem Mp.pushed (_ : Mp w W bb m ob rb B vx vf b b' X o s St D0 D) {obj : Obj} (hg : (W.alloc obj).grownBy W' vf.ownBlock) : Out (fun j => vf.ownBlock = some j) W W' := out_then (out_alloc (Out.refl _ _) _) (Out.of_grown hg (fun _ hk => hk))
theorem Mp.push (hF : StE St) (h : Mp w W bb m ob rb B vx vf b b' X o s St D0 D) {obj : Obj} {v' : Value} {f : Fil} (hg : (W.alloc obj).grownBy W' vf.ownBlock) (hn : W'.ownsRow w.heap.size 115 4 v' (s.fs.length + 1) (fV s.fs ++ [.int .i64 f.buyer, .int .i64 f.seller, .int .i64 f.price, .int .i64 f.qty])) :
    Mp w W' bb m ob rb B vx v' b b' X o ⟨s.fs ++ [f], s.L, s.q, s.ts⟩ St D0 D := by
  have h6 := h.pushed hg
  refine ⟨h.old, owns_out h.row h6 (fun k hk => owns_types h.row h.fils (by decide) hk), blk_out h.box h6 (owns_type h.fils h.box (by decide)), blk_out h.res h6 (owns_type h.fils h.res (by decide)), h.bk.out h6 (fun k hk e => h.bk.farAny h.fils (by decide) (by decide) (by decide) (by decide) (by decide) k e hk), h.lnk, ?_, hF.keep h.told h6 (fun j hj e => ?_), h.out.trans h6 (fun k hk => Or.inr (h.fils.lt k hk).1), h.went, h.dees, h.apart⟩
  · rw [fV_snoc, List.length_append, List.length_singleton]; exact hn
  · rcases h.fils.2 with ⟨rfl, _⟩ | ⟨g, cap, cur, rfl, _, hh, _⟩
    · cases e
    · have e' : g = j := by simpa [Value.ownBlock] using e
      subst e'
      exact ((hF.far h.told _ hj).2 _ _ _ hh).2 rfl
/-- an order of the book cut -/
theorem Mp.cut (hF : StE St) (h : Mp w W bb m ob rb B vx vf b b' X o s St D0 D) {L' : List Ord} (hg : Goes W W' bb m' b' b2) (hl : Lnk b2.S L') :
    Mp w W' bb m' ob rb B vx vf b b2 X o ⟨s.fs, L', s.q, s.ts⟩ St D0 D := by
  obtain ⟨g1, g2, g3⟩ := hg
  refine ⟨h.old, owns_out h.row g2 (h.bk.farAny h.row (by decide) (by decide) (by decide) (by decide) (by decide)), blk_out h.box g2 (h.bk.farBox h.box (by decide) (by decide) (by decide) (by decide) (by decide)), blk_out h.res g2 (h.bk.farBox h.res (by decide) (by decide) (by decide) (by decide) (by decide)), g1, hl, owns_out h.fils g2 (h.bk.farAny h.fils (by decide) (by decide) (by decide) (by decide) (by decide)), hF.keep h.told g2 h.apart, h.out.trans g2 (fun k hk => (h.went k hk).elim (fun e => Or.inl (Or.inl e)) Or.inr), fun k hk => ?_, h.dees, fun j hj e => ?_⟩
  · exact (g3 k hk).elim (h.went k) (fun e => Or.inr (Nat.le_trans h.out.size e))
  · rcases g3 j e with e | e
    · exact h.apart j hj e
    · have := (hF.far h.told _ hj).1
      omega
/-- the lots that are left, written -/
theorem Mp.left (hF : StE St) (h : Mp w W bb m ob rb B vx vf b b' X o s St D0 D) (q : Int) :
    Mp w (W.setCell ⟨ob, 4, none⟩ (.int .i64 q)) bb m ob rb B vx vf b b' X o ⟨s.fs, s.L, q, s.ts⟩ St D0 D := by
  have ho : Out (fun j => j = ob) W (W.setCell ⟨ob, 4, none⟩ (.int .i64 q)) := out_set W ⟨ob, 4, none⟩ _
  obtain ⟨o1, o2, o3, o4, o5⟩ := h.old
  have hb : ¬ b'.foot bb ob := h.bk.farBox h.box (by decide) (by decide) (by decide) (by decide) (by decide)
  refine ⟨h.old, owns_out h.row ho (fun k hk e => ?_), blk_set (j := 4) (.int .i64 q) h.box, blk_out h.res ho (fun e => o3 e.symm), h.bk.out ho (fun k hk e => hb (by rw [← show k = ob from e]; exact hk)), h.lnk, owns_out h.fils ho (fun k hk e => owns_type h.fils h.box (by decide) (hk.trans (congrArg some e))), hF.keep h.told ho (fun j hj e => ?_), h.out.trans ho (fun k hk => Or.inr (by rw [show k = ob from hk]; exact o1)), h.went, h.dees, h.apart⟩
  · have := (h.row.lt k hk).1
    have e' : k = ob := e
    omega
  · have e' : j = ob := e
    subst e'
    exact ((hF.far h.told _ hj).2 _ _ _ h.box).1 rfl
/-- a price told -/
theorem Mp.tell (hF : StE St) (h : Mp w W bb m ob rb B vx vf b b' X o s St D0 D) {D' : Nat → Prop} {p : Int} (ht : St W' (s.ts ++ [p]) D') (ho : Out D W W') (hd : ∀ j, D' j → D j ∨ W.heap.size ≤ j) :
    Mp w W' bb m ob rb B vx vf b b' X o ⟨s.fs, s.L, s.q, s.ts ++ [p]⟩ St D0 D' := by
  have hs := h.out.size
  have no : ∀ {k : Nat} {vs : Array Value} {t : TypeId} {fr : Nat × Nat}, W.heap[k]? = some (.cells vs t fr) → (t = 41 ∨ t = 115) → ¬ D k := fun hb ht hD => by
    have := (hF.far h.told _ hD).2 _ _ _ hb
    rcases ht with e | e
    · exact this.1 e
    · exact this.2 e
  have nr : ∀ {base' : Nat} {e : TypeId} {size n : Nat} {v : Value} {xs : List Value}, W.ownsRow base' e size v n xs → (e = 41 ∨ e = 115) → ∀ k, v.ownBlock = some k → ¬ D k := fun hr he k hk => by
    rcases hr.2 with ⟨rfl, _⟩ | ⟨g, cap, cur, rfl, _, hh, _⟩
    · cases hk
    · have e' : g = k := by simpa [Value.ownBlock] using hk
      subst e'
      exact no hh he
  refine ⟨h.old, owns_out h.row ho (nr h.row (Or.inl rfl)), blk_out h.box ho (no h.box (Or.inl rfl)), blk_out h.res ho (no h.res (Or.inl rfl)), h.bk.out ho (fun k hk e => h.apart k e hk), h.lnk, owns_out h.fils ho (nr h.fils (Or.inr rfl)), ht, h.out.trans ho (fun k hk => (h.dees k hk).elim (fun e => Or.inl (Or.inr e)) Or.inr), h.went, fun j hj => ?_, fun j hj e => ?_⟩
  · rcases hd j hj with e | e
    · exact h.dees j e
    · exact Or.inr (Nat.le_trans hs e)
  · rcases hd j hj with e' | e'
    · exact h.apart j e' e
    · have := h.bk.lt e
      omega
theorem Mp.start (hF : StE St) {V : World} {L : List Ord} (h : Bk w bb m b) (hl : Lnk b.S L) (hst : St w [] D) (hap : ∀ j, D j → ¬ b.foot bb j) (hb : Below w.heap.size w V) (ho : OrdAt V ob o) (hr : ZBox V rb) (h1 : w.heap.size ≤ ob) (h2 : w.heap.size ≤ rb) (h3 : ob ≠ rb) (hx : W.ownsRow V.heap.size 41 5 vx X.length (oV X)) (hb2 : Below V.heap.size V W) :
    Mp w W bb m ob rb V.heap.size vx (.slice none 0 0) b b X o ⟨[], L, o.qty, []⟩ St D D := by
  have hb3 := bel_then hb hb2
  exact ⟨⟨h1, h2, h3, lt_of_block ho, lt_of_block hr⟩, hx, blk_below ho hb2 (Nat.le_refl _), blk_below hr hb2 (Nat.le_refl _), h.below hb3 (Nat.le_refl _), hl, World.ownsRow_nil _ _ _ _, hF.keep hst (Out.of_below (S := fun _ => False) hb3 (Nat.le_refl _)) (fun _ _ e => e), Out.of_below hb3 (Nat.le_refl _), Went.refl _ _, fun j hj => Or.inl hj, hap⟩
/-- what is left of o, told -/
theorem Mp.done (hF : StE St) (h : Mp w W bb m ob rb B vx vf b b' X o s St D0 D) :
    DBox (boxed W rb (leftO o s.q)).drew rb (leftO o s.q) ∧ (boxed W rb (leftO o s.q)).drew.ownsRow w.heap.size 115 4 vf s.fs.length (fV s.fs) ∧ Bk (boxed W rb (leftO o s.q)).drew bb m b' ∧ Lnk b'.S s.L ∧ St (boxed W rb (leftO o s.q)).drew s.ts D ∧ Out (fun j => b.foot bb j ∨ D0 j) w (boxed W rb (leftO o s.q)).drew ∧ Went w (b.foot bb) (b'.foot bb) ∧ (∀ j, D j → D0 j ∨ w.heap.size ≤ j) := by
  have ho : Out (fun j => j = rb) W (boxed W rb (leftO o s.q)).drew := out_drew (boxed_out W rb (leftO o s.q))
  have hd : DBox (boxed W rb (leftO o s.q)).drew rb (leftO o s.q) := by
    unfold DBox
    rw [drew_heap]
    exact boxed_is (leftO o s.q) h.res
  generalize (boxed W rb (leftO o s.q)).drew = W' at ho hd ⊢
  obtain ⟨o1, o2, o3, o4, o5⟩ := h.old
  have hb : ¬ b'.foot bb rb := h.bk.farBox h.res (by decide) (by decide) (by decide) (by decide) (by decide)
  refine ⟨hd, owns_out h.fils ho (fun k hk e => owns_type h.fils h.res (by decide) (hk.trans (congrArg some e))), h.bk.out ho (fun k hk e => hb (by rw [← show k = rb from e]; exact hk)), h.lnk, hF.keep h.told ho (fun j hj e => ?_), h.out.trans ho (fun k hk => Or.inr (by rw [show k = rb from hk]; exact o2)), h.went, h.dees⟩
  have e' : j = rb := e
  subst e'
  exact ((hF.far h.told _ hj).2 _ _ _ h.res).1 rfl
end

/-- what Meets tells, and what it leaves -/
def MeetsE (al : List Int → Int → Bool) (o : Ord) (L : List Ord) (bb m : Nat) (b : BkS) (St : World → List Int → (Nat → Prop) → Prop) (D : Nat → Prop) (w : World) (e : Ending) (w' : World) : Prop :=
  ∃ (s : MS) (t : Bool) (vf : Value) (b' : BkS) (m' : Nat) (D' : Nat → Prop), meetS al o (sideO (3 - o.side) L) ⟨[], L, o.qty, []⟩ = (s, t) ∧ m' ≤ m + 100 ∧ e = .returned (.tuple #[vf, .agg #[.int .i64 o.id, .int .i64 o.side, .int .i64 o.kind, .int .i64 o.price, .int .i64 s.q], .bool t]) ∧ w'.ownsRow w.heap.size 115 4 vf s.fs.length (fV s.fs) ∧ Bk w' bb m' b' ∧ Lnk b'.S s.L ∧ St w' s.ts D' ∧ Out (fun j => b.foot bb j ∨ D j) w w' ∧ Went w (b.foot bb) (b'.foot bb) ∧ ∀ j, D' j → D j ∨ w.heap.size ≤ j
theorem meets_e {al : List Int → Int → Bool} {o : Ord} {L : List Ord} {bb m m' : Nat} {b b' : BkS} {St : World → List Int → (Nat → Prop) → Prop} {D D' : Nat → Prop} {w w' : World} {s : MS} {t : Bool} {vf : Value} (h : meetS al o (sideO (3 - o.side) L) ⟨[], L, o.qty, []⟩ = (s, t)) (hm : m' ≤ m + 100) (h2 : w'.ownsRow w.heap.size 115 4 vf s.fs.length (fV s.fs) ∧ Bk w' bb m' b' ∧ Lnk b'.S s.L ∧ St w' s.ts D' ∧ Out (fun j => b.foot bb j ∨ D j) w w' ∧ Went w (b.foot bb) (b'.foot bb) ∧ ∀ j, D' j → D j ∨ w.heap.size ≤ j) :
    MeetsE al o L bb m b St D w (.returned (.tuple #[vf, .agg #[.int .i64 o.id, .int .i64 o.side, .int .i64 o.kind, .int .i64 o.price, .int .i64 s.q], .bool t])) w' := ⟨s, t, vf, b', m', D', h, hm, rfl, h2⟩
end Go.Proofs.YtjdkagafdnchhaaGreatDoor
