/-
  The program's Indic and the law's own map of lots side by side, and what an order does to both, over this seat's translation. Conditions stand in each theorem.
-/
import Derived.Test.YtkfmljokenclaabDoorInOps
import Derived.Test.YtkfmljokenclaabDoorInQuo
import Derived.Test.YtkfmljokenclaabDoorInLot
import Derived.Test.YtkfmljokenclaabDoorCuSame
import Derived.Test.YtkfmljokenclaabDoorCuCurve
import Derived.Test.YtkfmljokenclaabDoorChChoose
import Derived.Test.YtkfmljokenclaabDoorErr
import Derived.Deep.CutBlock
import Derived.Deep.CutRange
import Derived.Maps.AppendAt
namespace Go.Proofs.YtkfmljokenclaabDoor
open Go.RowKit

/-- an order's place -/
def plK (o : Ord) : Int := if o.kind = 2 then 2 else 0
def plP (o : Ord) : Int := if o.kind = 2 then 0 else o.price
theorem plOk_of {o : Ord} (h : lieB o = true) : PlOk o.side (plK o) (plP o) := by
  obtain ⟨h1, _, h3⟩ := lieB_iff.1 h
  unfold PlOk plK plP
  by_cases hk : o.kind = 2
  · rw [if_pos hk, if_pos hk]; exact ⟨h1, Or.inr ⟨rfl, rfl⟩⟩
  · rw [if_neg hk, if_neg hk]; exact ⟨h1, Or.inl ⟨rfl, by omega⟩⟩
theorem lot_is {n : Int → Int → Int → Int} {o : Ord} (h : o.side = 1 ∨ o.side = 2) : lotOf (fun p => n 1 0 p) (fun p => n 2 0 p) (n 1 2 0) (n 2 2 0) o = n o.side (plK o) (plP o) := by
  unfold lotOf plK plP
  by_cases hk : o.kind = 2
  · rw [if_pos hk, if_pos hk, if_pos hk]
    rcases h with h | h <;> rw [h] <;> simp
  · rw [if_neg hk, if_neg hk, if_neg hk]
    rcases h with h | h <;> rw [h] <;> simp
theorem up_is {n : Int → Int → Int → Int} {o : Ord} {q x : Int} (h : o.side = 1 ∨ o.side = 2) (hx : x = n o.side (plK o) (plP o) + q) :
    (fun p => up3 n o.side (plK o) (plP o) x 1 0 p) = addB (fun p => n 1 0 p) o q ∧ (fun p => up3 n o.side (plK o) (plP o) x 2 0 p) = addS (fun p => n 2 0 p) o q ∧ up3 n o.side (plK o) (plP o) x 1 2 0 = addMb (n 1 2 0) o q ∧ up3 n o.side (plK o) (plP o) x 2 2 0 = addMs (n 2 2 0) o q := by
  subst hx
  unfold addB addS addMb addMs plK plP
  by_cases hk : o.kind = 2
  · simp only [if_pos hk]
    rcases h with h | h
    · rw [h]
      refine ⟨funext fun p => up3_other _ (by omega), funext fun p => up3_other _ (by omega), ?_, up3_other _ (by omega)⟩
      rw [up3_same]; simp
    · rw [h]
      refine ⟨funext fun p => up3_other _ (by omega), funext fun p => up3_other _ (by omega), up3_other _ (by omega), ?_⟩
      rw [up3_same]; simp
  · simp only [if_neg hk]
    rcases h with h | h
    · rw [h]
      refine ⟨?_, funext fun p => up3_other _ (by omega), up3_other _ (by omega), up3_other _ (by omega)⟩
      rw [if_pos rfl]
      funext p
      by_cases e : p = o.price
      · subst e; rw [up3_same, upI_same]
      · rw [up3_other _ (by omega), upI_other _ e]
    · rw [h]
      refine ⟨?_, ?_, up3_other _ (by omega), up3_other _ (by omega)⟩
      · rw [if_neg (by decide)]; exact funext fun p => up3_other _ (by omega)
      · rw [if_neg (by decide)]
        funext p
        by_cases e : p = o.price
        · subst e; rw [up3_same, upI_same]
        · rw [up3_other _ (by omega), upI_other _ e]

/-- Both side by side: the program's Indic and the law's own map of lots. -/
structure Both (w0 w : World) (v : Value) (n : Int → Int → Int → Int) (i : Nat) : Prop where
  ind : IndAt w w0.heap.size v (fun p => n 1 0 p) (fun p => n 2 0 p) (n 1 2 0) (n 2 2 0) i
  map : LtAt w (w0.heap.size + 1) n i
  ok : NOk n i
  bel : Below w0.heap.size w0 w
  row : ∀ k, v.ownBlock = some k → w0.heap.size ≤ k
theorem Both.below {w0 w w' : World} {v : Value} {n : Int → Int → Int → Int} {i : Nat} (h : Both w0 w v n i) (hb : Below w.heap.size w w') : Both w0 w' v n i :=
  ⟨h.ind.below hb, h.map.below hb, h.ok, bel_then h.bel hb, h.row⟩
theorem LtAt.more {w : World} {B i : Nat} {n : Int → Int → Int → Int} (h : LtAt w B n i) : LtAt w B n (i + 1) := by
  obtain ⟨D, h1, h2⟩ := h; exact ⟨D, h1.mono (by omega), h2⟩
theorem Both.more {w0 w : World} {v : Value} {n : Int → Int → Int → Int} {i : Nat} (h : Both w0 w v n i) : Both w0 w v n (i + 1) := ⟨h.ind.more (by omega), h.map.more, h.ok.more, h.bel, h.row⟩
theorem Both.small {w0 w : World} {v : Value} {n : Int → Int → Int → Int} {i : Nat} (h : Both w0 w v n i) (hi : i ≤ 100) : SmallF (fun p => n 1 0 p) ∧ SmallF (fun p => n 2 0 p) ∧ (0 ≤ n 1 2 0 ∧ n 1 2 0 ≤ 1000000000) ∧ (0 ≤ n 2 2 0 ∧ n 2 2 0 ≤ 1000000000) := by
  have h1 := h.ok.nn
  have h2 := h.ok.small
  refine ⟨fun p => ⟨h1 1 0 p, ?_⟩, fun p => ⟨h1 2 0 p, ?_⟩, ⟨h1 1 2 0, ?_⟩, ⟨h1 2 2 0, ?_⟩⟩
  · have := h2 1 0 p; show n 1 0 p ≤ _; omega
  · have := h2 2 0 p; show n 2 0 p ≤ _; omega
  · have := h2 1 2 0; omega
  · have := h2 2 2 0; omega
/-- an order and its place, in blocks of their own -/
def OBox (w : World) (b : Nat) (o : Ord) : Prop := w.heap[b]? = some (.cells #[.int .i64 o.id, .int .i64 o.side, .int .i64 o.kind, .int .i64 o.price, .int .i64 o.qty] 30 (0, 0))
def PBox (w : World) (b : Nat) (o : Ord) : Prop := w.heap[b]? = some (.cells #[.int .i64 o.side, .int .i64 (plK o), .int .i64 (plP o)] 34 (0, 0))

set_option maxHeartbeats 1000000 in
theorem inRight (p : Int) (w : World) :
    Calls Tryd.prog 4 #[.int .i64 p, .int .i64 1] w fun e w' => e = .returned (.bool (inC 1 1000000 p)) ∧ w' = w := by
  go_enter Tryd.func4, Tryd.ntmps4
  go_wp2_with fail
  refine (cuIn _ _ _ _).mono ?_
  rintro e w1 ⟨rfl, hw⟩
  subst hw
  cases h : inC 1 1000000 p with
  | false =>
    have HH : Hid (inC 1 1000000 p = false) := h
    clear h
    go_wp2_with fail
    go_ret
    exact ⟨by rw [HH.out]; rfl, rfl⟩
  | true =>
    have HH : Hid (inC 1 1000000 p = true) := h
    clear h
    go_wp2_with fail
    refine (cuIn _ _ _ _).mono ?_
    rintro e w1 ⟨rfl, hw⟩
    subst hw
    go_wp2_with fail
    go_ret
    exact ⟨by rw [HH.out]; rfl, rfl⟩


/-- the Indic stays while the map alone changes -/
theorem Both.indOut {w0 w w' : World} {v : Value} {n : Int → Int → Int → Int} {i : Nat} (h : Both w0 w v n i) (ho : Out (fun j => j = w0.heap.size + 1) w w') : IndAt w' w0.heap.size v (fun p => n 1 0 p) (fun p => n 2 0 p) (n 1 2 0) (n 2 2 0) i := by
  obtain ⟨hblk, l, h1, h2⟩ := h.ind
  refine ⟨blk_out hblk ho (fun e => by omega), l, owns_out h1 ho (fun k hk e => ?_), h2⟩
  subst e
  rcases h1.2 with ⟨rfl, _⟩ | ⟨g, cap, cur, rfl, _, hh, _⟩
  · cases hk
  · have hk' : some g = some (w0.heap.size + 1) := hk
    injection hk' with hk'
    exact h.map.ne hh hk'.symm
theorem LtAt.indT {w : World} {xb B i m : Nat} {v : Value} {n : Int → Int → Int → Int} {b s : Int → Int} {mb ms : Int} (h : LtAt w B n i) (hI : IndAt w xb v b s mb ms m) : ¬ IndT xb v B := fun e => by
  rcases e with e | e
  · exact h.ne hI.blk e
  · obtain ⟨l, h1, _⟩ := hI.row
    rcases h1.2 with ⟨rfl, _⟩ | ⟨g, cap, cur, rfl, _, hh, _⟩
    · cases e
    · have hk' : some g = some B := e
      injection hk' with hk'
      exact h.ne hh hk'.symm
/-- both have changed -/
theorem Both.step {w0 w w3 w4 : World} {v v' : Value} {n n' : Int → Int → Int → Int} {b' s' : Int → Int} {mb' ms' : Int} {i : Nat} (h : Both w0 w v n i) (ho : Out (fun j => j = w0.heap.size + 1) w w3) (hm : LtAt w3 (w0.heap.size + 1) n' (i + 1)) (hn : NOk n' (i + 1))
    (hI : IndAt w4 w0.heap.size v' b' s' mb' ms' (i + 1)) (hO : Out (IndT w0.heap.size v) w3 w4) (hW : Went w3 (IndT w0.heap.size v) (IndT w0.heap.size v')) (e : (fun p => n' 1 0 p) = b' ∧ (fun p => n' 2 0 p) = s' ∧ n' 1 2 0 = mb' ∧ n' 2 2 0 = ms') : Both w0 w4 v' n' (i + 1) := by
  obtain ⟨e1, e2, e3, e4⟩ := e
  have hI3 := h.indOut ho
  have hb3 : Below w0.heap.size w0 w3 := h.bel.trans (ho.below (B := w0.heap.size) (fun k hk => by rw [show k = w0.heap.size + 1 from hk]; omega) h.bel.size)
  have hlow : ∀ k, IndT w0.heap.size v k → w0.heap.size ≤ k := fun k hk => by
    rcases hk with hk | hk
    · omega
    · exact h.row k hk
  refine ⟨by rw [e1, e2, e3, e4]; exact hI, hm.blk (hO.block _ hm.lt (hm.indT hI3)), hn, hb3.trans (hO.below hlow hb3.size), fun k hk => ?_⟩
  rcases hW k (Or.inr hk) with h1 | h1
  · exact hlow k h1
  · exact Nat.le_trans hb3.size h1
theorem OBox.out {S : Nat → Prop} {w w' : World} {x : Nat} {o : Ord} (h : OBox w x o) (ho : Out S w w') (hS : ¬ S x) : OBox w' x o := blk_out h ho hS
theorem PBox.out {S : Nat → Prop} {w w' : World} {x : Nat} {o : Ord} (h : PBox w x o) (ho : Out S w w') (hS : ¬ S x) : PBox w' x o := blk_out h ho hS
theorem OBox.below {w w' : World} {x : Nat} {o : Ord} (h : OBox w x o) (hb : Below w.heap.size w w') : OBox w' x o := blk_below h hb (Nat.le_refl _)
theorem PBox.below {w w' : World} {x : Nat} {o : Ord} (h : PBox w x o) (hb : Below w.heap.size w w') : PBox w' x o := blk_below h hb (Nat.le_refl _)
/-- 'm[k] op= q' on the law's map, as the walk meets it -/
theorem Both.entry {w0 w : World} {v : Value} {n : Int → Int → Int → Int} {i x : Nat} {o : Ord} (h : Both w0 w v n i) (hi : i ≤ 100) (hl : lieB o = true) {y : Int} (hy : -1000000000 ≤ y ∧ y ≤ 1000000000) (hO : OBox w x o) (hP : PBox w (x + 1) o) :
    ∃ (v0 : Value) (st : Nat) (w1 w3 : World) (D : DataW Unit), LtD D n ∧ Maps.IsMap D
      ∧ (Instr.lookup 28 (.map (some (w0.heap.size + 1))) (.agg #[.int .i64 o.side, .int .i64 (plK o), .int .i64 (plP o)]) false).run Tryd.prog w.drew = .ok (.int .i64 (n o.side (plK o) (plP o))) w.drew
      ∧ (Instr.mapEntry 28 (.map (some (w0.heap.size + 1))) (.agg #[.int .i64 o.side, .int .i64 (plK o), .int .i64 (plP o)])).run Tryd.prog w.drew = .ok (.tuple #[v0, .int .i64 st]) w1
      ∧ (Instr.lookup 28 (.map (some (w0.heap.size + 1))) (.agg #[.int .i64 o.side, .int .i64 (plK o), .int .i64 (plP o)]) false).run Tryd.prog w1 = .ok (.int .i64 (n o.side (plK o) (plP o))) w1
      ∧ (Instr.entryStore 28 (.map (some (w0.heap.size + 1))) (.int .i64 st) (.int .i64 y)).run Tryd.prog w1 = .ok () w3
      ∧ Out (fun j => j = w0.heap.size + 1) w w3 ∧ mapIs w3 (w0.heap.size + 1) (i + 1) (D.put (KL o.side (plK o) (plP o)) (litI y)) ∧ OBox w3 x o ∧ PBox w3 (x + 1) o := by
  obtain ⟨D, hM, hD⟩ := h.map
  have hwf := (plOk_of hl).wf
  have hMd : mapIs w.drew (w0.heap.size + 1) i D := hM
  obtain ⟨v0, st, w1, hme, ho1, hst⟩ := mapIs.entry hMd (by omega) hwf
  obtain ⟨w3, hes, ho3, hM3⟩ := hst w1 y (WalkArith.wf_i64 (by omega)) rfl
  have ho : Out (fun j => j = w0.heap.size + 1) w w3 := (Out.of_below (Below.refl w.heap.size w).drew (Nat.le_refl _)).trans (ho1.trans ho3 (Went.refl _ _)) (Went.refl _ _)
  exact ⟨v0, st, w1, w3, D, hD, World.ownsMap.isMap hM, mapIs.look hMd hD.1 hwf, hme, mapIs.entryLook hMd hD.1 (by omega) hwf hme, hes, ho, hM3, hO.out ho (fun e => h.map.ne hO e.symm), hP.out ho (fun e => h.map.ne hP e.symm)⟩

theorem Tryd.infoOi : (Tryd.prog.info? 30).map (fun i => (i.zero, i.size, i.bytes)) = some (some (.agg #[.int .i64 0, .int .i64 0, .int .i64 0, .int .i64 0, .int .i64 0]), 5, 40) := by kernel_rfl
abbrev rngs (w : World) (B r i : Nat) (D : DataW Unit) (left : Lit → Bool) (cnt : Nat) : Prop := w.ranges Tryd.prog 34 (plainElem Tryd.prog 3) B r i D left cnt
/-- neither the map nor its iterator is a row's block -/
theorem rngs_row {w : World} {B r i : Nat} {D : DataW Unit} {left : Lit → Bool} {cnt : Nat} {base : Nat} {e : TypeId} {size : Nat} {v : Value} {m : Nat} {xs : List Value} (h : rngs w B r i D left cnt) (hv : w.ownsRow base e size v m xs) : some B ≠ v.ownBlock ∧ some r ≠ v.ownBlock := by
  obtain ⟨es, clock, since, seen, c0, hb, _, _, _, hr, _⟩ := h
  rcases hv.2 with ⟨rfl, _⟩ | ⟨g, cap, cur, rfl, _, hh, _⟩
  · exact ⟨(fun e => by cases e), (fun e => by cases e)⟩
  · refine ⟨fun e => ?_, fun e => ?_⟩
    · have e' : some B = some g := e
      injection e' with e'
      rw [e', hh] at hb; cases hb
    · have e' : some r = some g := e
      injection e' with e'
      rw [e', hh] at hr; cases hr
theorem oV_snoc (l : List Ord) (x : Ord) : oV (l ++ [x]) = oV l ++ [.int .i64 x.id, .int .i64 x.side, .int .i64 x.kind, .int .i64 x.price, .int .i64 x.qty] := by rw [oV_append]; rfl
/-- what the range gives at a step -/
theorem rng_step {D : DataW Unit} {n : Int → Int → Int → Int} {i : Nat} {left : Lit → Bool} {ss : List Pl} (hL : LtD D n) (hn : NOk n i) (hC : CollP D left ss) {s k p c : Int} {kl : Lit} {y : DataW Unit × List MemPlace} (hkey : keyOf Tryd.prog 34 (.agg #[.int .i64 s, .int .i64 k, .int .i64 p]) = some kl) (hl : left kl = true) (hv : plainElem Tryd.prog 3 (.int .i64 c) = some y) (hat : ∀ zd, D.atKey kl zd = y.1) :
    kl = KL s k p ∧ Wf3 s k p ∧ c = n s k p ∧ PlOk s k p ∧ 0 < c ∧ (s, k, p) ∉ ss ∧ CollP D (fun z => left z && !z.sameKey kl) (ss ++ [(s, k, p)]) := by
  obtain ⟨s', k', p', e, hw, hkl⟩ := pl_inv hkey
  unfold plV at e
  obtain ⟨rfl, rfl, rfl⟩ : s = s' ∧ k = k' ∧ p = p' := by simpa using e
  subst hkl
  obtain ⟨a, ea, ey, _⟩ := plainElem_int_inv Tryd.underlying3 hv
  obtain rfl : c = a := by simpa using ea
  subst ey
  have hc : c = n s k p := by
    have h1 := hL.1 s k p hw
    rw [hat] at h1
    simpa [litI] using h1
  have hh : Maps.has D (KL s k p) = true := Maps.has_true_of_atKey hat
  have h0 := hL.2 s k p hw hh
  have h1 := hn.nn s k p
  exact ⟨rfl, hw, hc, hn.pl s k p h0, by omega, hC.fresh hw hl, hC.step hw hl hh⟩
theorem GOut.short {n : Int → Int → Int → Int} {i : Nat} {ss : List Pl} {G : List Ord} (h : GOut n ss G) (hn : NOk n i) (hi : i ≤ 101) (hd : ss.Nodup) : G.length ≤ 210 := by
  have h1 := h.len
  have h2 := hn.sum ss hd
  omega
theorem GIn.short {n : Int → Int → Int → Int} {i : Nat} {ss : List Pl} {s k p r : Int} {G : List Ord} (h : GIn n ss s k p r G) (hr : 0 ≤ r) (hn : NOk n i) (hi : i ≤ 101) (hd : (ss ++ [(s, k, p)]).Nodup) : G.length ≤ 210 := by
  have h1 := h.len
  have h2 := hn.sum _ hd
  have h3 := wt0_in hr
  rw [sumW_snoc] at h2
  have e : nAt n (s, k, p) = n s k p := rfl
  rw [e] at h2
  omega

/-- a place in a block of its own is no part of either -/
theorem Both.outP {w0 w w' : World} {v : Value} {n : Int → Int → Int → Int} {i y : Nat} {vs : Array Value} {f : Nat × Nat} (h : Both w0 w v n i) (hy : w.heap[y]? = some (.cells vs 34 f)) (hl : w0.heap.size ≤ y) (ho : Out (fun j => j = y) w w') : Both w0 w' v n i := by
  obtain ⟨⟨hblk, l, h1, h2⟩, hm, hn, hb, hr⟩ := h
  refine ⟨⟨blk_out hblk ho (fun e => blk_ne hblk hy (by decide) e), l, owns_out h1 ho (fun k hk e => ?_), h2⟩, hm.blk (ho.block _ hm.lt (fun e => hm.ne hy e)), hn, hb.trans (ho.below (B := w0.heap.size) (fun k hk => by rw [show k = y from hk]; exact hl) hb.size), hr⟩
  subst e
  exact owns_type h1 hy (by decide) hk
end Go.Proofs.YtkfmljokenclaabDoor
