/-
  What the program's trade (9.2) does, whole, over this seat's translation. Conditions stand in each theorem: where the engine lies, that the order's side is one, and that the market's numbers are such as may be.
-/
import Derived.Test.YtjdkagafdnchhaaGreatDoorLP
import Derived.Deep.CutRange
namespace Go.Proofs.YtjdkagafdnchhaaGreatDoor
open Go.RowKit

theorem Eg.farFill {w : World} {eb base n size : Nat} {k : EgK} {M : Mkt} {v : Value} {xs : List Value} (h : Eg w eb k M) (hr : w.ownsRow base 115 size v n xs) : ∀ j, v.ownBlock = some j → ¬ k.foot eb j := fun j hj e => by
  rcases e with e | e | e | e | e
  · exact owns_type hr h.box (by decide) (by rw [hj, e])
  · exact owns_type hr h.bn (by decide) (by rw [hj, e])
  · exact h.bk.farAny hr (by decide) (by decide) (by decide) (by decide) (by decide) j hj e
  · exact owns_types hr h.pk (by decide) hj e
  · rcases hr.2 with ⟨e', _⟩ | ⟨g, cap, cur, e', _, hh, _⟩
    · rw [e'] at hj; cases hj
    · rw [e'] at hj
      have e2 : g = j := by simpa [Value.ownBlock] using hj
      exact h.tkn.ne hh (e2.trans e)
/-- behind Meets, of the market M -/
def metM (M : Mkt) (o : Ord) : Mkt := { M with L := (meetM M o).1.L, la := lastT M.la (meetM M o).1.ts }
theorem egMeetsAt (eb pb : Nat) (k : EgK) (M : Mkt) (o : Ord) (W : World) (h : Eg W eb k M) (hpb : W.heap[pb]? = some (.cells #[.pointer (some ⟨eb, 0, none⟩)] 26 (0, 0))) (hpt : pb ≠ k.tb ∧ pb ≠ k.cb) (hm : k.m ≤ 700000) (hs : o.side = 1 ∨ o.side = 2) (hq : -9223372036854775808 ≤ o.qty ∧ o.qty ≤ 9223372036854775807) :
    Calls Tryz.prog 94 #[.pointer (some ⟨k.bb, 0, none⟩), .agg #[.int .i64 o.id, .int .i64 o.side, .int .i64 o.kind, .int .i64 o.price, .int .i64 o.qty], .func (.func 95) #[.pointer (some ⟨k.nb, 0, none⟩)] #[], .func (.func 96) #[] #[.pointer (some ⟨pb, 0, none⟩)]] W
      fun e W' => ∃ (vf : Value) (b' : BkS), e = .returned (.tuple #[vf, .agg #[.int .i64 o.id, .int .i64 o.side, .int .i64 o.kind, .int .i64 o.price, .int .i64 (meetM M o).1.q], .bool (meetM M o).2]) ∧ W'.ownsRow W.heap.size 115 4 vf (meetM M o).1.fs.length (fV (meetM M o).1.fs)
        ∧ Eg W' eb { k with m := k.m + 100, b := b' } (metM M o) ∧ Out (fun j => k.foot eb j ∨ j = pb) W W' ∧ Went W (k.foot eb) ({ k with m := k.m + 100, b := b' : EgK }.foot eb)
        ∧ W'.heap[pb]? = some (.cells #[.pointer (some ⟨eb, 0, none⟩)] 26 (0, 0))
        ∧ ∀ (j : Nat) (vs : Array Value), k.vp.ownBlock ≠ some j → W.heap[j]? = some (.cells vs 41 (0, 0)) → W'.heap[j]? = some (.cells vs 41 (0, 0)) := by
  have hst : EgSt eb pb k.nb (egV k M) M W [] (fun j => j = k.nb ∨ j = pb ∨ j = eb) := ⟨h.bn, hpb, h.box, rfl, rfl⟩
  have hpf : ¬ k.b.foot k.bb pb := h.bk.farBox hpb (by decide) (by decide) (by decide) (by decide) (by decide)
  refine (cpMeetsE k.bb k.m k.b M.L o _ _ _ _ _ _ (alM M) _ _ W h.bk (by omega) h.lnk h.lok hs hq (egSt_e eb pb k.nb (egV k M) M) (egSt_ask eb pb k.nb (egV k M) M) (egSt_tell eb pb k.nb (egV k M) M) hst (fun j hj e => ?_)).mono ?_
  · rcases hj with rfl | rfl | rfl
    · exact h.nbbk e
    · exact hpf e
    · exact h.ebbk e
  · rintro e W' ⟨s, t, vf, b', m', D', hmt, hm', rfl, hrow, hbk, hl, hst', ho, hwt, _⟩
    have e1 : meetM M o = (s, t) := hmt
    unfold metM
    rw [e1]
    obtain ⟨g1, g2, g3⟩ := h.ofMeets hpb hpt ho hwt (hbk.more hm' (by omega)) hl (Nat.le_add_right _ _) hst'
    refine ⟨vf, b', rfl, hrow, g1, g2, g3, hst'.ptr, fun j vs hv hj => blk_out hj ho (fun e => ?_)⟩
    rcases e with e | e | e | e
    · exact h.bk.farBox hj (by decide) (by decide) (by decide) (by decide) (by decide) e
    · exact blk_ne hj h.bn (by decide) e
    · exact blk_ne hj hpb (by decide) e
    · exact blk_ne hj h.box (by decide) e
/-- the cells that trade's first statement reads -/
structure TrS (eb pb ob : Nat) (k : EgK) (o : Ord) (w : World) : Prop where
  p0 : w.cell? ⟨pb, 0, none⟩ = some (.pointer (some ⟨eb, 0, none⟩))
  e2 : w.cell? ⟨eb, 2, none⟩ = some (.pointer (some ⟨k.bb, 0, none⟩))
  e1 : w.cell? ⟨eb, 1, none⟩ = some (.pointer (some ⟨k.nb, 0, none⟩))
  o0 : w.cell? ⟨ob, 0, none⟩ = some (.int .i64 o.id)
  o1 : w.cell? ⟨ob, 1, none⟩ = some (.int .i64 o.side)
  o2 : w.cell? ⟨ob, 2, none⟩ = some (.int .i64 o.kind)
  o3 : w.cell? ⟨ob, 3, none⟩ = some (.int .i64 o.price)
  o4 : w.cell? ⟨ob, 4, none⟩ = some (.int .i64 o.qty)
theorem bel_cell {w w' : World} {a : Addr} {v : Value} (h : w.cell? a = some v) (hb : Below w.heap.size w w') : w'.cell? a = some v := (hb.cell (World.block_lt_of_cell? w _ h)).trans h
theorem TrS.bel {eb pb ob : Nat} {k : EgK} {o : Ord} {w w' : World} (h : TrS eb pb ob k o w) (hb : Below w.heap.size w w') : TrS eb pb ob k o w' :=
  ⟨bel_cell h.p0 hb, bel_cell h.e2 hb, bel_cell h.e1 hb, bel_cell h.o0 hb, bel_cell h.o1 hb, bel_cell h.o2 hb, bel_cell h.o3 hb, bel_cell h.o4 hb⟩
theorem cell_set_ne {w : World} {a : Addr} {v : Value} {lb i : Nat} (h : w.cell? a = some v) (hn : lb ≠ a.block) (u : Value) : (w.setCell ⟨lb, i, none⟩ u).cell? a = some v := cell_outE h (out_set w ⟨lb, i, none⟩ u) (fun e => hn e.symm)
theorem TrS.set {eb pb ob lb : Nat} {k : EgK} {o : Ord} {w : World} (h : TrS eb pb ob k o w) (hn : lb ≠ pb ∧ lb ≠ eb ∧ lb ≠ ob) (i : Nat) (u : Value) : TrS eb pb ob k o (w.setCell ⟨lb, i, none⟩ u) :=
  ⟨cell_set_ne h.p0 hn.1 u, cell_set_ne h.e2 hn.2.1 u, cell_set_ne h.e1 hn.2.1 u, cell_set_ne h.o0 hn.2.2 u, cell_set_ne h.o1 hn.2.2 u, cell_set_ne h.o2 hn.2.2 u, cell_set_ne h.o3 hn.2.2 u, cell_set_ne h.o4 hn.2.2 u⟩
theorem TrS.open {eb pb ob : Nat} {k : EgK} {o : Ord} {w : World} (h : TrS eb pb ob k o w) : w.cell? ⟨pb, 0, none⟩ = some (.pointer (some ⟨eb, 0, none⟩)) ∧ w.cell? ⟨eb, 2, none⟩ = some (.pointer (some ⟨k.bb, 0, none⟩)) ∧ w.cell? ⟨eb, 1, none⟩ = some (.pointer (some ⟨k.nb, 0, none⟩)) ∧ w.cell? ⟨ob, 0, none⟩ = some (.int .i64 o.id) ∧ w.cell? ⟨ob, 1, none⟩ = some (.int .i64 o.side) ∧ w.cell? ⟨ob, 2, none⟩ = some (.int .i64 o.kind) ∧ w.cell? ⟨ob, 3, none⟩ = some (.int .i64 o.price) ∧ w.cell? ⟨ob, 4, none⟩ = some (.int .i64 o.qty) := ⟨h.p0, h.e2, h.e1, h.o0, h.o1, h.o2, h.o3, h.o4⟩

theorem Eg.farOrd {w : World} {eb j : Nat} {k : EgK} {M : Mkt} {vs : Array Value} (h : Eg w eb k M) (hj : w.heap[j]? = some (.cells vs 41 (0, 0))) (hv : k.vp.ownBlock ≠ some j) : ¬ k.foot eb j := fun e => by
  rcases e with e | e | e | e | e
  · exact blk_ne hj h.box (by decide) e
  · exact blk_ne hj h.bn (by decide) e
  · exact h.bk.farBox hj (by decide) (by decide) (by decide) (by decide) (by decide) e
  · exact hv e
  · exact h.tkn.ne hj e
/-- an order written into a box that is no part of the engine -/
theorem EgGo.boxed {w w2 : World} {eb lb : Nat} {k k2 : EgK} {M2 : Mkt} {vs : Array Value} (hg : EgGo w w2 eb k k2 M2) (hz : w2.heap[lb]? = some (.cells vs 41 (0, 0))) (hlb : w.heap.size ≤ lb) (ht : k2.tb ≠ lb ∧ k2.cb ≠ lb) (hv : k2.vp.ownBlock ≠ some lb) (x : Ord) : EgGo w (boxed w2 lb x) eb k k2 M2 := by
  have ho := boxed_out w2 lb x
  have hf := hg.1.farOrd hz hv
  refine ⟨hg.1.out ho (fun j hj e => ?_), hg.2.1.trans ho (fun j hj => Or.inr (by rw [show j = lb from hj]; exact hlb)), hg.2.2⟩
  have e' : j = lb := e
  subst e'
  rcases hj with hj | hj | hj
  · exact hf hj
  · exact ht.1 hj.symm
  · exact ht.2 hj.symm
/-- what trade holds behind Meets -/
def TrMid (w : World) (eb : Nat) (k : EgK) (M : Mkt) (o : Ord) (u5 u6 u7 : Value) (wc : World) : Prop :=
  ∃ (lb : Nat) (b' : BkS), u6 = .pointer (some ⟨lb, 0, none⟩) ∧ u7 = .bool (meetM M o).2 ∧ wc.ownsRow w.heap.size 115 4 u5 (meetM M o).1.fs.length (fV (meetM M o).1.fs) ∧ OrdAt wc lb (leftO o (meetM M o).1.q) ∧ w.heap.size ≤ lb ∧ EgGo w wc eb k { k with m := k.m + 100, b := b' } (metM M o) ∧ wc.heap[w.heap.size]? = some (.cells #[.pointer (some ⟨eb, 0, none⟩)] 26 (0, 0))
/-- the box laid behind Meets -/
theorem tr_midA {w w2 : World} {eb : Nat} {k : EgK} {M : Mkt} {o : Ord} {vf : Value} {b' : BkS} (hr : w2.ownsRow w.heap.size 115 4 vf (meetM M o).1.fs.length (fV (meetM M o).1.fs)) (hg : EgGo w w2 eb k { k with m := k.m + 100, b := b' } (metM M o)) (hp : w2.heap[w.heap.size]? = some (.cells #[.pointer (some ⟨eb, 0, none⟩)] 26 (0, 0))) :
    TrMid w eb k M o vf (.pointer (some ⟨w2.heap.size, 0, none⟩)) (.bool (meetM M o).2) (w2.alloc (.cells #[.int .i64 o.id, .int .i64 o.side, .int .i64 o.kind, .int .i64 o.price, .int .i64 (meetM M o).1.q] 41)) :=
  ⟨w2.heap.size, b', rfl, rfl, owns_below hr (bel1 _ _) (Nat.le_refl _), heap_alloc_new w2 _, hg.2.1.size, hg.bel (bel1 _ _), blk_below hp (bel1 _ _) (Nat.le_refl _)⟩
/-- the box laid ahead of it -/
theorem tr_midB {w w2 : World} {eb lb : Nat} {k : EgK} {M : Mkt} {o : Ord} {vf : Value} {b' : BkS} (hr : w2.ownsRow w.heap.size 115 4 vf (meetM M o).1.fs.length (fV (meetM M o).1.fs)) (hg : EgGo w w2 eb k { k with m := k.m + 100, b := b' } (metM M o)) (hp : w2.heap[w.heap.size]? = some (.cells #[.pointer (some ⟨eb, 0, none⟩)] 26 (0, 0)))
    (hz : ZBox w2 lb) (hlb : w.heap.size ≤ lb) (ht : k.tb ≠ lb ∧ k.cb ≠ lb) (hv : k.vp.ownBlock ≠ some lb) :
    TrMid w eb k M o vf (.pointer (some ⟨lb, 0, none⟩)) (.bool (meetM M o).2) (((((w2.setCell ⟨lb, 0, none⟩ (.int .i64 o.id)).setCell ⟨lb, 1, none⟩ (.int .i64 o.side)).setCell ⟨lb, 2, none⟩ (.int .i64 o.kind)).setCell ⟨lb, 3, none⟩ (.int .i64 o.price)).setCell ⟨lb, 4, none⟩ (.int .i64 (meetM M o).1.q)) :=
  show TrMid w eb k M o vf _ _ (boxed w2 lb (leftO o (meetM M o).1.q)) from ⟨lb, b', rfl, rfl, owns_out hr (boxed_out _ _ _) (fun j hj e => owns_type hr hz (by decide) (by rw [hj]; exact congrArg some e)), boxed_is _ hz, hlb, hg.boxed hz hlb ht hv _, blk_out hp (boxed_out _ _ _) (fun e => blk_ne hp hz (by decide) e)⟩

set_option maxRecDepth 8000 in
set_option maxHeartbeats 8000000 in
theorem egTrade (eb : Nat) (k : EgK) (M : Mkt) (o : Ord) (w : World) (h : Eg w eb k M) (hm : k.m ≤ 700000) (hs : o.side = 1 ∨ o.side = 2) (hq : -9223372036854775808 ≤ o.qty ∧ o.qty ≤ 9223372036854775807) (hid : (Lit.int .i64 o.id).wf = true) (hn : 0 ≤ M.now ∧ M.now ≤ 1000000000000) (ht : 0 ≤ M.ti ∧ M.ti ≤ 1000000000000) :
    Calls Tryz.prog 49 #[.pointer (some ⟨eb, 0, none⟩), o.agg] w fun e w' => ∃ vf k', e = .returned vf ∧ w'.ownsRow w.heap.size 115 4 vf (tradeM M o).1.length (fV (tradeM M o).1) ∧ EgGo w w' eb k k' (tradeM M o).2 ∧ k'.m ≤ k.m + 101 := by
  have H : Hid (Eg w eb k M) := h
  have HS : Hid (o.side = 1 ∨ o.side = 2) := hs
  have HID : Hid ((Lit.int .i64 o.id).wf = true) := hid
  have hpt : w.heap.size ≠ k.tb ∧ w.heap.size ≠ k.cb := ⟨by have := h.tlt'; omega, by have := h.tlt; omega⟩
  have HPT : Hid (w.heap.size ≠ k.tb ∧ w.heap.size ≠ k.cb) := hpt
  clear h hs hid hpt
  unfold Ord.agg
  go_enter Tryz.func49, Tryz.ntmps49
  go_upto_region 1 with fail
  have hb1 := bel2 w (.cells #[.pointer (some ⟨eb, 0, none⟩)] 26) (.cells #[.int .i64 o.id, .int .i64 o.side, .int .i64 o.kind, .int .i64 o.price, .int .i64 o.qty] 41)
  have hp1 := two_old w (.cells #[.pointer (some ⟨eb, 0, none⟩)] 26) (.cells #[.int .i64 o.id, .int .i64 o.side, .int .i64 o.kind, .int .i64 o.price, .int .i64 o.qty] 41)
  have ho1 := two_new w (.cells #[.pointer (some ⟨eb, 0, none⟩)] 26) (.cells #[.int .i64 o.id, .int .i64 o.side, .int .i64 o.kind, .int .i64 o.price, .int .i64 o.qty] 41)
  generalize (w.alloc (.cells #[.pointer (some ⟨eb, 0, none⟩)] 26)).alloc (.cells #[.int .i64 o.id, .int .i64 o.side, .int .i64 o.kind, .int .i64 o.price, .int .i64 o.qty] 41) = w1 at hb1 hp1 ho1 ⊢
  have HB1 : Hid (Below w.heap.size w w1) := hb1
  have HP1 : Hid _ := hp1
  have HO1 : Hid _ := ho1
  have H1 : Hid (Eg w1 eb k M) := H.out.below hb1
  have HT1 : Hid (TrS eb w.heap.size (w.heap.size + 1) k o w1) := ⟨blk_cell (j := 0) hp1 rfl, blk_cell (j := 2) H1.out.box rfl, blk_cell (j := 1) H1.out.box rfl, blk_cell (j := 0) ho1 rfl, blk_cell (j := 1) ho1 rfl, blk_cell (j := 2) ho1 rfl, blk_cell (j := 3) ho1 rfl, blk_cell (j := 4) ho1 rfl⟩
  have hvp : ∀ j, w.heap.size ≤ j → k.vp.ownBlock ≠ some j := fun j hj e => by have := (H.out.pk.lt j e).2; omega
  have HVP : Hid (∀ j, w.heap.size ≤ j → k.vp.ownBlock ≠ some j) := hvp
  have HNE : Hid (w1.heap.size ≠ w.heap.size ∧ w1.heap.size ≠ eb ∧ w1.heap.size ≠ w.heap.size + 1) := by have a1 := lt_of_block ho1; have a2 := lt_of_block H.out.box; exact ⟨by omega, by omega, by omega⟩
  have HLB : Hid (k.tb ≠ w1.heap.size ∧ k.cb ≠ w1.heap.size) := by have a1 := HB1.out.size; have a2 := H.out.tlt; have a3 := H.out.tlt'; exact ⟨by omega, by omega⟩
  clear hb1 hp1 ho1 hvp
  go_cut [5, 6, 7] from 8 to 23 (fun u5 u6 u7 wc => TrMid w eb k M o u5 u6 u7 wc)
  case first =>
    go_region_held3 (fun w' => w'.cell? ⟨w.heap.size, 0, none⟩ = some (.pointer (some ⟨eb, 0, none⟩)) ∧ w'.cell? ⟨eb, 2, none⟩ = some (.pointer (some ⟨k.bb, 0, none⟩)) ∧ w'.cell? ⟨eb, 1, none⟩ = some (.pointer (some ⟨k.nb, 0, none⟩)) ∧ w'.cell? ⟨w.heap.size + 1, 0, none⟩ = some (.int .i64 o.id) ∧ w'.cell? ⟨w.heap.size + 1, 1, none⟩ = some (.int .i64 o.side) ∧ w'.cell? ⟨w.heap.size + 1, 2, none⟩ = some (.int .i64 o.kind) ∧ w'.cell? ⟨w.heap.size + 1, 3, none⟩ = some (.int .i64 o.price) ∧ w'.cell? ⟨w.heap.size + 1, 4, none⟩ = some (.int .i64 o.qty))
      ((refine TrS.open ?_; first | exact ((((HT2.out.set HNE.out 0 _).set HNE.out 1 _).set HNE.out 2 _).set HNE.out 3 _).set HNE.out 4 _ | (refine HT2.out.bel ?_; (repeat' first | assumption | exact Below.refl _ _ | exact Nat.le_refl _ | refine Below.drew ?_ | refine Below.alloc ?_ ?_ _ | (simp; done) | (simp; omega))) | (refine HT1.out.bel ?_; (repeat' first | assumption | exact Below.refl _ _ | exact Nat.le_refl _ | refine Below.drew ?_ | refine Below.alloc ?_ ?_ _ | (simp; done) | (simp; omega)))))
      ((go_at_call 94; refine (egMeetsAt eb w.heap.size k M o _ (H1.out.below ?_) (blk_below HP1.out ?_ (Nat.le_refl _)) HPT.out hm HS.out hq).mono ?_; ((repeat' first | assumption | exact Below.refl _ _ | exact Nat.le_refl _ | refine Below.drew ?_ | refine Below.alloc ?_ ?_ _ | (simp; done) | (simp; omega))); ((repeat' first | assumption | exact Below.refl _ _ | exact Nat.le_refl _ | refine Below.drew ?_ | refine Below.alloc ?_ ?_ _ | (simp; done) | (simp; omega))); rintro e w2 ⟨vf, b', rfl, hr2, he2, ho2, hw2, hp2, hk2⟩; have hob := hk2 (w.heap.size + 1) _ (HVP.out _ (by omega)) (blk_below HO1.out (by (repeat' first | assumption | exact Below.refl _ _ | exact Nat.le_refl _ | refine Below.drew ?_ | refine Below.alloc ?_ ?_ _ | (simp; done) | (simp; omega))) (Nat.le_refl _)); have HT2 : Hid (TrS eb w.heap.size (w.heap.size + 1) k o w2) := ⟨blk_cell (j := 0) hp2 rfl, blk_cell (j := 2) he2.box rfl, blk_cell (j := 1) he2.box rfl, blk_cell (j := 0) hob rfl, blk_cell (j := 1) hob rfl, blk_cell (j := 2) hob rfl, blk_cell (j := 3) hob rfl, blk_cell (j := 4) hob rfl⟩; have HG2 : Hid (EgGo w w2 eb k { k with m := k.m + 100, b := b' } (metM M o)) := ⟨he2, (Out.of_below (bel_then HB1.out (by (repeat' first | assumption | exact Below.refl _ _ | exact Nat.le_refl _ | refine Below.drew ?_ | refine Below.alloc ?_ ?_ _ | (simp; done) | (simp; omega)))) (Nat.le_refl _)).trans ho2 (fun j hj => hj.imp id (fun e => by rw [e]; exact Nat.le_refl _)), fun j hj => (hw2 j hj).imp id (fun e => Nat.le_trans (bel_then HB1.out (by (repeat' first | assumption | exact Below.refl _ _ | exact Nat.le_refl _ | refine Below.drew ?_ | refine Below.alloc ?_ ?_ _ | (simp; done) | (simp; omega)))).size e), rfl, rfl⟩; have HR2 : Hid _ := owns_base hr2 (bel_then HB1.out (by (repeat' first | assumption | exact Below.refl _ _ | exact Nat.le_refl _ | refine Below.drew ?_ | refine Below.alloc ?_ ?_ _ | (simp; done) | (simp; omega)))).size; have HP2 : Hid _ := hp2; (try (have hz2 := hk2 w1.heap.size #[.int .i64 0, .int .i64 0, .int .i64 0, .int .i64 0, .int .i64 0] (HVP.out _ HB1.out.size) (heap_alloc_new _ _); have z0 := blk_cell (j := 0) hz2 rfl; have z1 := blk_cell (j := 1) hz2 rfl; have z2 := blk_cell (j := 2) hz2 rfl; have z3 := blk_cell (j := 3) hz2 rfl; have z4 := blk_cell (j := 4) hz2 rfl; have y0 := blk_free (j := 0) hz2; have y1 := blk_free (j := 1) hz2; have y2 := blk_free (j := 2) hz2; have y3 := blk_free (j := 3) hz2; have y4 := blk_free (j := 4) hz2; have HZ2 : Hid _ := hz2; clear hz2)); clear hr2 he2 ho2 hw2 hp2 hk2 hob))
    all_goals go_wp2_with fail
    all_goals go_meet
    all_goals first | exact tr_midB (lb := w1.heap.size) HR2.out HG2.out HP2.out HZ2.out HB1.out.size HLB.out (HVP.out _ HB1.out.size) | exact tr_midA HR2.out HG2.out HP2.out
  case rest =>
    clear HT1 HP1 HO1 HB1 H1 HNE HLB HPT
    obtain ⟨lb, b', rfl, rfl, hr, hx, hlb, hg, hp⟩ := hcut
    have HT0 : Hid (tradeM M o = ((meetM M o).1.fs, if (meetM M o).2 = true then volM { M with L := if 0 < (meetM M o).1.q ∧ o.kind ≠ 2 then addL (leftO o (meetM M o).1.q) (meetM M o).1.L else (meetM M o).1.L, la := lastT M.la (meetM M o).1.ts } else { M with L := if 0 < (meetM M o).1.q ∧ o.kind ≠ 2 then addL (leftO o (meetM M o).1.q) (meetM M o).1.L else (meetM M o).1.L, la := lastT M.la (meetM M o).1.ts })) := rfl
    unfold metM at hg
    generalize meetM M o = mt at hr hx hg HT0 ⊢
    obtain ⟨s, t⟩ := mt
    dsimp only at hr hx hg HT0 ⊢
    have HR : Hid (wc.ownsRow w.heap.size 115 4 u5 s.fs.length (fV s.fs)) := hr
    have HX : Hid (OrdAt wc lb (leftO o s.q)) := hx
    have HG : Hid (EgGo w wc eb k { k with m := k.m + 100, b := b' } { M with L := s.L, la := lastT M.la s.ts }) := hg
    have HP : Hid (wc.heap[w.heap.size]? = some (.cells #[.pointer (some ⟨eb, 0, none⟩)] 26 (0, 0))) := hp
    have x0 : wc.cell? ⟨lb, 0, none⟩ = some (.int .i64 o.id) := blk_cell (j := 0) hx rfl
    have x1 : wc.cell? ⟨lb, 1, none⟩ = some (.int .i64 o.side) := blk_cell (j := 1) hx rfl
    have x2 : wc.cell? ⟨lb, 2, none⟩ = some (.int .i64 o.kind) := blk_cell (j := 2) hx rfl
    have x3 : wc.cell? ⟨lb, 3, none⟩ = some (.int .i64 o.price) := blk_cell (j := 3) hx rfl
    have x4 : wc.cell? ⟨lb, 4, none⟩ = some (.int .i64 s.q) := blk_cell (j := 4) hx rfl
    have p0 : wc.cell? ⟨w.heap.size, 0, none⟩ = some (.pointer (some ⟨eb, 0, none⟩)) := blk_cell (j := 0) hp rfl
    clear hr hx hg hp
    by_cases hl : 0 < s.q ∧ o.kind ≠ 2
    · have HT : Hid (tradeM M o = (s.fs, if t = true then volM { M with L := addL (leftO o s.q) s.L, la := lastT M.la s.ts } else { M with L := addL (leftO o s.q) s.L, la := lastT M.la s.ts })) := by show _ = _; rw [HT0.out, if_pos hl]
      obtain ⟨hq0, hk2⟩ := hl
      have kb : (o.kind != 2) = true := by simpa using hk2
      clear hk2 HT0
      go_wp2_with fail
      have hx4 := heap_alloc_new wc (.cells #[.int .i64 o.id, .int .i64 o.side, .int .i64 o.kind, .int .i64 o.price, .int .i64 s.q] 41)
      have hb4 := bel1 wc (.cells #[.int .i64 o.id, .int .i64 o.side, .int .i64 o.kind, .int .i64 o.price, .int .i64 s.q] 41)
      generalize wc.alloc (.cells #[.int .i64 o.id, .int .i64 o.side, .int .i64 o.kind, .int .i64 o.price, .int .i64 s.q] 41) = w3 at hx4 hb4 ⊢
      have h3 := HG.out.1.below hb4
      have hfar : ∀ b off, some (⟨wc.heap.size, 0, none⟩ : Addr) = some ⟨b, off, none⟩ → ¬ b'.foot k.bb b := fun b off e => by
        injection e with e
        injection e with e _ _
        rw [← e]
        exact h3.bk.farBox hx4 (by decide) (by decide) (by decide) (by decide) (by decide)
      have hin : OrdsIn w3 (some ⟨wc.heap.size, 0, none⟩) [leftO o s.q] := fun i hi => by
        have e : i = 0 := by simp at hi; omega
        subst e
        exact ⟨wc.heap.size, 0, rfl, blk_cell (j := 0) hx4 rfl, blk_cell (j := 1) hx4 rfl, blk_cell (j := 2) hx4 rfl, blk_cell (j := 3) hx4 rfl, blk_cell (j := 4) hx4 rfl⟩
      have HG3 : Hid (EgGo w w3 eb k { k with m := k.m + 100, b := b' } { M with L := s.L, la := lastT M.la s.ts }) := HG.out.bel hb4
      have HR3 : Hid (w3.ownsRow w.heap.size 115 4 u5 s.fs.length (fV s.fs)) := owns_below HR.out hb4 (Nat.le_refl _)
      have HP3 : Hid _ := blk_below HP.out hb4 (Nat.le_refl _)
      clear hx4 hb4 h3 x0 x1 x2 x3 x4 p0 HG HR HP HX
      refine (egLay eb { k with m := k.m + 100, b := b' } { M with L := s.L, la := lastT M.la s.ts } (some ⟨wc.heap.size, 0, none⟩) 1 [leftO o s.q] w3 HG3.out.1 hin (fun x hx => by rw [List.mem_singleton.1 hx]; exact HID.out) hfar (by show k.m + 100 + 1 ≤ 900000; omega)).mono ?_
      rintro e w4 ⟨rfl, b4, hl4, hg4⟩
      have h4 := HG3.out.1.ofBook hg4 hl4 (Nat.le_add_right _ _)
      have HG4 : Hid (EgGo w w4 eb k { k with m := k.m + 100 + 1, b := b4 } { M with L := addL (leftO o s.q) s.L, la := lastT M.la s.ts }) := HG3.out.trans h4
      have HR4 : Hid (w4.ownsRow w.heap.size 115 4 u5 s.fs.length (fV s.fs)) := owns_out HR3.out h4.2.1 (HG3.out.1.farFill HR3.out)
      have HP4 : Hid (w4.heap[w.heap.size]? = some (.cells #[.pointer (some ⟨eb, 0, none⟩)] 26 (0, 0))) := blk_out HP3.out hg4.2.1 (HG3.out.1.bk.farBox HP3.out (by decide) (by decide) (by decide) (by decide) (by decide))
      clear hl4 hg4 h4 HG3 HR3 HP3 hin hfar
      cases t with
      | true =>
        have HTT : Hid (tradeM M o = (s.fs, volM { M with L := addL (leftO o s.q) s.L, la := lastT M.la s.ts })) := by show _ = _; rw [HT.out]; rfl
        have p4 : w4.cell? ⟨w.heap.size, 0, none⟩ = some (.pointer (some ⟨eb, 0, none⟩)) := blk_cell (j := 0) HP4.out rfl
        go_wp2_with fail
        refine (egGather eb { k with m := k.m + 100 + 1, b := b4 } { M with L := addL (leftO o s.q) s.L, la := lastT M.la s.ts } w4 HG4.out.1 hn ht).mono ?_
        rintro e w5 ⟨rfl, h5⟩
        have H5 : Hid (EgGo w4 w5 eb { k with m := k.m + 100 + 1, b := b4 } { k with m := k.m + 100 + 1, b := b4 } (volM { M with L := addL (leftO o s.q) s.L, la := lastT M.la s.ts })) := h5
        have HR5 : Hid (w5.ownsRow w.heap.size 115 4 u5 s.fs.length (fV s.fs)) := owns_out HR4.out h5.2.1 (HG4.out.1.farFill HR4.out)
        clear h5
        go_wp2_with fail
        go_ret
        rw [HTT.out]
        first | exact ⟨u5, _, rfl, HR5.out, HG4.out.trans H5.out, (by show k.m + 100 + 1 ≤ k.m + 101; omega)⟩ | exact ⟨u5, rfl, HR5.out, _, HG4.out.trans H5.out, (by show k.m + 100 + 1 ≤ k.m + 101; omega)⟩
      | false =>
        have HTT : Hid (tradeM M o = (s.fs, { M with L := addL (leftO o s.q) s.L, la := lastT M.la s.ts })) := by show _ = _; rw [HT.out]; rfl
        go_wp2_with fail
        go_ret
        rw [HTT.out]
        first | exact ⟨u5, _, rfl, HR4.out, HG4.out, (by show k.m + 100 + 1 ≤ k.m + 101; omega)⟩ | exact ⟨u5, rfl, HR4.out, _, HG4.out, (by show k.m + 100 + 1 ≤ k.m + 101; omega)⟩
    · have HT : Hid (tradeM M o = (s.fs, if t = true then volM { M with L := s.L, la := lastT M.la s.ts } else { M with L := s.L, la := lastT M.la s.ts })) := by show _ = _; rw [HT0.out, if_neg hl]
      clear HT0 HX
      generalize wc = w4 at HG HR HP x0 x1 x2 x3 x4 p0 ⊢
      have HG4 : Hid (EgGo w w4 eb k { k with m := k.m + 100, b := b' } { M with L := s.L, la := lastT M.la s.ts }) := HG.out
      have HR4 : Hid (w4.ownsRow w.heap.size 115 4 u5 s.fs.length (fV s.fs)) := HR.out
      have HP4 : Hid (w4.heap[w.heap.size]? = some (.cells #[.pointer (some ⟨eb, 0, none⟩)] 26 (0, 0))) := HP.out
      clear HG HR HP
      by_cases hq0 : 0 < s.q
      · have hk2 : o.kind = 2 := Classical.byContradiction (fun e => hl ⟨hq0, e⟩)
        have kb : (o.kind != 2) = false := by simp [hk2]
        clear hk2 hl
        cases t with
        | true =>
          have HTT : Hid (tradeM M o = (s.fs, volM { M with L := s.L, la := lastT M.la s.ts })) := by show _ = _; rw [HT.out]; rfl
          have p4 : w4.cell? ⟨w.heap.size, 0, none⟩ = some (.pointer (some ⟨eb, 0, none⟩)) := blk_cell (j := 0) HP4.out rfl
          go_wp2_with fail
          refine (egGather eb { k with m := k.m + 100, b := b' } { M with L := s.L, la := lastT M.la s.ts } w4 HG4.out.1 hn ht).mono ?_
          rintro e w5 ⟨rfl, h5⟩
          have H5 : Hid (EgGo w4 w5 eb { k with m := k.m + 100, b := b' } { k with m := k.m + 100, b := b' } (volM { M with L := s.L, la := lastT M.la s.ts })) := h5
          have HR5 : Hid (w5.ownsRow w.heap.size 115 4 u5 s.fs.length (fV s.fs)) := owns_out HR4.out h5.2.1 (HG4.out.1.farFill HR4.out)
          clear h5
          go_wp2_with fail
          go_ret
          rw [HTT.out]
          first | exact ⟨u5, _, rfl, HR5.out, HG4.out.trans H5.out, (by show k.m + 100 ≤ k.m + 101; omega)⟩ | exact ⟨u5, rfl, HR5.out, _, HG4.out.trans H5.out, (by show k.m + 100 ≤ k.m + 101; omega)⟩
        | false =>
          have HTT : Hid (tradeM M o = (s.fs, { M with L := s.L, la := lastT M.la s.ts })) := by show _ = _; rw [HT.out]; rfl
          go_wp2_with fail
          go_ret
          rw [HTT.out]
          first | exact ⟨u5, _, rfl, HR4.out, HG4.out, (by show k.m + 100 ≤ k.m + 101; omega)⟩ | exact ⟨u5, rfl, HR4.out, _, HG4.out, (by show k.m + 100 ≤ k.m + 101; omega)⟩
      · clear hl
        cases t with
        | true =>
          have HTT : Hid (tradeM M o = (s.fs, volM { M with L := s.L, la := lastT M.la s.ts })) := by show _ = _; rw [HT.out]; rfl
          have p4 : w4.cell? ⟨w.heap.size, 0, none⟩ = some (.pointer (some ⟨eb, 0, none⟩)) := blk_cell (j := 0) HP4.out rfl
          go_wp2_with fail
          refine (egGather eb { k with m := k.m + 100, b := b' } { M with L := s.L, la := lastT M.la s.ts } w4 HG4.out.1 hn ht).mono ?_
          rintro e w5 ⟨rfl, h5⟩
          have H5 : Hid (EgGo w4 w5 eb { k with m := k.m + 100, b := b' } { k with m := k.m + 100, b := b' } (volM { M with L := s.L, la := lastT M.la s.ts })) := h5
          have HR5 : Hid (w5.ownsRow w.heap.size 115 4 u5 s.fs.length (fV s.fs)) := owns_out HR4.out h5.2.1 (HG4.out.1.farFill HR4.out)
          clear h5
          go_wp2_with fail
          go_ret
          rw [HTT.out]
          first | exact ⟨u5, _, rfl, HR5.out, HG4.out.trans H5.out, (by show k.m + 100 ≤ k.m + 101; omega)⟩ | exact ⟨u5, rfl, HR5.out, _, HG4.out.trans H5.out, (by show k.m + 100 ≤ k.m + 101; omega)⟩
        | false =>
          have HTT : Hid (tradeM M o = (s.fs, { M with L := s.L, la := lastT M.la s.ts })) := by show _ = _; rw [HT.out]; rfl
          go_wp2_with fail
          go_ret
          rw [HTT.out]
          first | exact ⟨u5, _, rfl, HR4.out, HG4.out, (by show k.m + 100 ≤ k.m + 101; omega)⟩ | exact ⟨u5, rfl, HR4.out, _, HG4.out, (by show k.m + 100 ≤ k.m + 101; omega)⟩
end Go.Proofs.YtjdkagafdnchhaaGreatDoor
