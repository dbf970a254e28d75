/-
  What the program's Fills (8.1) returns, over this seat's translation. Conditions stand in each theorem: where the book lies, that its orders are those of the document's list, and how many lots are willing.
-/
import Derived.Test.YtcoijhofliilmabGreatDoorGP
import Derived.Maps.AppendAt
import Derived.Test.YtcoijhofliilmabGreatDoorGA
import Derived.Defers
import Derived.Recover
import Derived.Shelf.Abstract
import Derived.Test.YtcoijhofliilmabGreatDoorGN
namespace Go.Proofs.YtcoijhofliilmabGreatDoor
open Go.RowKit

theorem Tryz.infoFp : (Tryz.prog.info? 59).map (fun i => (i.zero, i.size, i.bytes)) = some (some (.agg #[.int .i64 0, .int .i64 0, .int .i64 0, .int .i64 0]), 4, 32) := by kernel_rfl
/-- nothing of the program's book is a row of another type, nor a block of one -/
theorem Bk.farAny {w : World} {bb m base size n : Nat} {e : TypeId} {b : BkS} {v : Value} {xs : List Value} (h : Bk w bb m b) (hr : w.ownsRow base e size v n xs) (h1 : e ≠ 93) (h2 : e ≠ 118) (h3 : e ≠ 123) (h4 : e ≠ 3) (h5 : e ≠ 96) : ∀ k, v.ownBlock = some k → ¬ b.foot bb k := fun k hk f => by
  rcases f with f | f | f | f | f
  · exact owns_type hr h.at_.box h1.symm (by rw [hk, f])
  · rcases f with f | f | f
    · exact owns_type hr h.at_.ar.box h2.symm (by rw [hk, f])
    · exact owns_types hr h.at_.ar.slots h3 hk f
    · exact owns_types hr h.at_.ar.free h4 hk f
  · exact owns_notMap hr h.at_.map (by rw [hk, f])
  · exact owns_types hr h.at_.row0 h5 hk f
  · exact owns_types hr h.at_.row1 h5 hk f
theorem Bk.farBox {w : World} {bb m k : Nat} {b : BkS} {vs : Array Value} {t : TypeId} (h : Bk w bb m b) (hk : w.heap[k]? = some (.cells vs t (0, 0))) (h1 : t ≠ 93) (h2 : t ≠ 118) (h3 : t ≠ 123) (h4 : t ≠ 3) (h5 : t ≠ 96) : ¬ b.foot bb k := fun e => by
  rcases e with e | e | e | e | e
  · exact blk_ne hk h.at_.box h1 e
  · rcases e with e | e | e
    · exact blk_ne hk h.at_.ar.box h2 e
    · exact owns_type h.at_.ar.slots hk h3 e
    · exact owns_type h.at_.ar.free hk h4 e
  · exact h.at_.map.ne hk e
  · exact owns_type h.at_.row0 hk h5 e
  · exact owns_type h.at_.row1 hk h5 e

set_option maxRecDepth 4000 in
set_option maxHeartbeats 4000000 in
theorem cpFills_no (bb m : Nat) (b : BkS) (L : List Ord) (p q : Int) (w : World) (h : Bk w bb m b) (hl : Lnk b.S L) (hok : LOk L) (hno : ¬ (1 ≤ q ∧ q ≤ min (wilL 1 p L) (wilL 2 p L))) :
    Calls Tryz.prog 7 #[.pointer (some ⟨bb, 0, none⟩), .int .i64 p, .int .i64 q] w fun e w' => e = .returned (.tuple #[.slice none 0 0, .iface 28 (.int .i64 2)]) ∧ Below w.heap.size w w' := by
  have H : Hid (Bk w bb m b) := h
  have HL : Hid (Lnk b.S L) := hl
  have HK : Hid (LOk L) := hok
  clear h hl hok
  go_enter Tryz.func7, Tryz.ntmps7
  go_wp2_with fail
  refine (cpWilling p w).mono ?_
  rintro e w1 ⟨rfl, rfl⟩
  have hb1 := bel1 w (.cells #[.int .i64 p] 3)
  have hp1 := heap_alloc_new w (.cells #[.int .i64 p] 3)
  generalize w.alloc (.cells #[.int .i64 p] 3) = w1 at hb1 hp1 ⊢
  have HB1 : Hid (Below w.heap.size w w1) := hb1
  have HP1 : Hid _ := hp1
  clear hb1 hp1
  by_cases hq : q < 1
  · go_wp2_with fail
    go_ret2
    exact ⟨rfl, HB1.out⟩
  · have hq2 : decide (q > min (wilL 1 p L) (wilL 2 p L)) = true := decide_eq_true (by omega)
    go_wp2_with fail
    refine (cpLots bb m 0 b L p w.heap.size w1 (H.out.below HB1.out (Nat.le_refl _)) HL.out HK.out (by decide) 1 rfl HP1.out).mono ?_
    rintro e w2 ⟨rfl, hb2⟩
    have HB2 : Hid (Below w.heap.size w w2) := bel_then HB1.out hb2
    have HP2 : Hid _ := blk_below HP1.out hb2 (Nat.le_refl _)
    clear hb2
    go_wp2_with fail
    refine (cpLots bb m 1 b L p w.heap.size w2 (H.out.below HB2.out (Nat.le_refl _)) HL.out HK.out (by decide) 2 rfl HP2.out).mono ?_
    rintro e w3 ⟨rfl, hb3⟩
    have HB3 : Hid (Below w.heap.size w w3) := bel_then HB2.out hb3
    clear hb3
    go_wp2_with fail
    go_ret2
    exact ⟨rfl, HB3.out⟩

/-- a trade in a block of its own -/
def FBox (w : World) (b : Nat) (f : Fil) : Prop := w.heap[b]? = some (.cells #[.int .i64 f.buyer, .int .i64 f.seller, .int .i64 f.price, .int .i64 f.qty] 59 (0, 0))
/-- between two trades: the book, of one mind with a list of orders, changed since w alone; the trades so far -/
structure Cpt (w W : World) (bb m : Nat) (b b' : BkS) (L : List Ord) (fs : List Fil) (vf : Value) : Prop where
  bk : Bk W bb m b'
  lnk : Lnk b'.S L
  since : Since w W bb b b'
  fils : W.ownsRow w.heap.size 59 4 vf fs.length (fV fs)
section
variable {w W W' : World} {bb m m' k : Nat} {b b' b2 : BkS} {L L' : List Ord} {fs : List Fil} {vf v' : Value} {x : Ord} {f : Fil} {obj : Obj}
theorem Cpt.below (h : Cpt w W bb m b b' L fs vf) (hb : Below W.heap.size W W') : Cpt w W' bb m b b' L fs vf := ⟨h.bk.below hb (Nat.le_refl _), h.lnk, h.since.below hb, owns_below h.fils hb (Nat.le_refl _)⟩
theorem Cpt.goes (h : Cpt w W bb m b b' L fs vf) (hg : Goes W W' bb m' b' b2) (hl : Lnk b2.S L') : Cpt w W' bb m' b b2 L' fs vf :=
  ⟨hg.1, hl, h.since.goes hg, owns_out h.fils hg.2.1 (h.bk.farAny h.fils (by decide) (by decide) (by decide) (by decide) (by decide))⟩
theorem Cpt.pushed (_ : Cpt w W bb m b b' L fs vf) (hg : (W.alloc obj).grownBy W' vf.ownBlock) : Out (fun j => vf.ownBlock = some j) W W' := out_then (out_alloc (Out.refl _ _) _) (Out.of_grown hg (fun _ hk => hk))
theorem Cpt.push (h : Cpt w W bb m b b' L fs vf) (hg : (W.alloc obj).grownBy W' vf.ownBlock) (hn : W'.ownsRow w.heap.size 59 4 v' (fs.length + 1) (fV fs ++ [.int .i64 f.buyer, .int .i64 f.seller, .int .i64 f.price, .int .i64 f.qty])) : Cpt w W' bb m b b' L (fs ++ [f]) v' := by
  have h6 := h.pushed hg
  refine ⟨h.bk.out h6 (fun k hk e => h.bk.farAny h.fils (by decide) (by decide) (by decide) (by decide) (by decide) k e hk), h.lnk, ⟨h.since.1.trans h6 (fun k hk => Or.inr (h.fils.lt k hk).1), h.since.2⟩, ?_⟩
  rw [fV_snoc, List.length_append, List.length_singleton]; exact hn
theorem Cpt.boxO (h : Cpt w W bb m b b' L fs vf) (hg : Goes W W' bb m' b' b2) (hx : OrdAt W k x) : OrdAt W' k x := blk_out hx hg.2.1 (h.bk.farBox hx (by decide) (by decide) (by decide) (by decide) (by decide))
theorem Cpt.boxF (h : Cpt w W bb m b b' L fs vf) (hg : Goes W W' bb m' b' b2) (hx : FBox W k f) : FBox W' k f := blk_out hx hg.2.1 (h.bk.farBox hx (by decide) (by decide) (by decide) (by decide) (by decide))
theorem best_is (hl : Lnk b.S L) {s : Nat} (hs : s < 2) {T : List Ord} (h : sideO ((s : Int) + 1) L = x :: T) : bestV ((b.S s).map Ly.o) = .tuple #[.agg #[.int .i64 x.id, .int .i64 x.side, .int .i64 x.kind, .int .i64 x.price, .int .i64 x.qty], .nilIface] := by
  rw [hl.side s hs, h]; rfl
theorem lnk_wf (h : Bk w bb m b) (hl : Lnk b.S L) (hx : x ∈ L) : (Lit.int .i64 x.id).wf = true := by
  obtain ⟨s, hs, y, hy, rfl⟩ := hl.mem.1 hx
  exact (h.ok.ok s hs y hy).2.1
end
/-- Cut of lots that an order has -/
theorem cpCut_yes (bb m : Nat) (b : BkS) (L : List Ord) (o : Ord) (n : Int) (w : World) (h : Bk w bb m b) (hm : m + 1 ≤ 900) (hl : Lnk b.S L) (hok : LOk L) (ho : o ∈ L) (hn : 1 ≤ n ∧ n ≤ o.qty) :
    Calls Tryz.prog 28 #[.pointer (some ⟨bb, 0, none⟩), .int .i64 o.id, .int .i64 n] w fun e w' => ∃ err, e = .returned err ∧ ∃ b', Lnk b'.S (lessF o.id n L) ∧ Goes w w' bb (m + 1) b b' := by
  refine (prog_cut h hm hl o.id n (lnk_wf h hl ho)).mono ?_
  rintro e w' ⟨err, rfl, _, b', h1, h2⟩
  rw [(cut_is hok ho hn).1] at h1
  exact ⟨err, rfl, b', h1, h2⟩

set_option maxRecDepth 4000 in
set_option maxHeartbeats 8000000 in
theorem cpFills (bb m : Nat) (b : BkS) (L : List Ord) (p q : Int) (w : World) (h : Bk w bb m b) (hm : m ≤ 600) (hl : Lnk b.S L) (hok : LOk L) (hq : 1 ≤ q ∧ q ≤ min (wilL 1 p L) (wilL 2 p L)) :
    Calls Tryz.prog 7 #[.pointer (some ⟨bb, 0, none⟩), .int .i64 p, .int .i64 q] w fun e w' => ∃ (K : Nat) (vf : Value), e = .returned (.tuple #[vf, .nilIface]) ∧ (fiter p ⟨[], L, q⟩ K).q = 0 ∧ (∀ j, j < K → 0 < (fiter p ⟨[], L, q⟩ j).q) ∧ ∃ b', Cpt w w' bb (m + 2 * K) b b' (fiter p ⟨[], L, q⟩ K).L (fiter p ⟨[], L, q⟩ K).fs vf := by
  obtain ⟨iF, hiF, hF0, hF1, hF2⟩ := info_parts Tryz.infoFp
  have H : Hid (Bk w bb m b) := h
  have HL : Hid (Lnk b.S L) := hl
  have HK : Hid (LOk L) := hok
  have HF0 : Hid (FOk p ⟨[], L, q⟩) := ⟨hok, by show 0 ≤ q; omega, by show q ≤ wilL 1 p L; omega, by show q ≤ wilL 2 p L; omega⟩
  have hL100 : L.length ≤ 100 := lnk_few h.ok hl
  have hqs : q ≤ 100000000 := by have := wilL_in 1 p hok; omega
  have hq1 : ¬ q < 1 := by omega
  have hq2 : decide (q > min (wilL 1 p L) (wilL 2 p L)) = false := decide_eq_false (by omega)
  clear h hl hok hq
  go_enter Tryz.func7, Tryz.ntmps7
  go_wp2_with fail
  refine (cpWilling p w).mono ?_
  rintro e w1 ⟨rfl, rfl⟩
  have hb1 := bel1 w (.cells #[.int .i64 p] 3)
  have hp1 := heap_alloc_new w (.cells #[.int .i64 p] 3)
  generalize w.alloc (.cells #[.int .i64 p] 3) = w1 at hb1 hp1 ⊢
  have HB1 : Hid (Below w.heap.size w w1) := hb1
  have HP1 : Hid _ := hp1
  clear hb1 hp1
  go_wp2_with fail
  refine (cpLots bb m 0 b L p w.heap.size w1 (H.out.below HB1.out (Nat.le_refl _)) HL.out HK.out (by decide) 1 rfl HP1.out).mono ?_
  rintro e w2 ⟨rfl, hb2⟩
  have HB2 : Hid (Below w.heap.size w w2) := bel_then HB1.out hb2
  have HP2 : Hid _ := blk_below HP1.out hb2 (Nat.le_refl _)
  clear hb2
  go_wp2_with fail
  refine (cpLots bb m 1 b L p w.heap.size w2 (H.out.below HB2.out (Nat.le_refl _)) HL.out HK.out (by decide) 2 rfl HP2.out).mono ?_
  rintro e w3 ⟨rfl, hb3⟩
  have HB3 : Hid (Below w.heap.size w w3) := bel_then HB2.out hb3
  clear hb3
  go_wp2_with fail
  clear hq2 hq1
  go_loopw [2, 9, 10, 11, 12, 13, 14] (fun u2 u9 _ _ _ _ _ wr => ∃ (k : Nat) (b' : BkS), u2 = .int .i64 (fiter p ⟨[], L, q⟩ k).q ∧ (∀ j, j < k → 0 < (fiter p ⟨[], L, q⟩ j).q) ∧ (fiter p ⟨[], L, q⟩ k).fs.length = k ∧ (k : Int) + (fiter p ⟨[], L, q⟩ k).q ≤ q ∧ Cpt w wr bb (m + 2 * k) b b' (fiter p ⟨[], L, q⟩ k).L (fiter p ⟨[], L, q⟩ k).fs u9) (fun u2 _ _ _ _ _ _ _ => (intOf u2).toNat)
  case atStart => exact ⟨0, b, rfl, fun j hj => absurd hj (by omega), rfl, by show (0 : Int) + q ≤ q; omega, H.out.below HB3.out (Nat.le_refl _), HL.out, (Since.refl _ _ _).below HB3.out, World.ownsRow_nil _ _ _ _⟩
  case round =>
    obtain ⟨k, b', rfl, hj, hfl, hkq, hC⟩ := hrel
    have HJ : Hid (∀ j, j < k → 0 < (fiter p ⟨[], L, q⟩ j).q) := hj
    have HFO : Hid (FOk p (fiter p ⟨[], L, q⟩ k)) := fiter_ok HF0.out k hj
    have hq0 := HFO.out.nn
    have HC : Hid (Cpt w wr bb (m + 2 * k) b b' (fiter p ⟨[], L, q⟩ k).L (fiter p ⟨[], L, q⟩ k).fs u9) := hC
    obtain ⟨fa, fc, rfl, _, _⟩ := owns_shape hC.fils
    have HFL : Hid ((fiter p ⟨[], L, q⟩ k).fs.length = k) := hfl
    clear hj hfl
    by_cases hq1 : 0 < (fiter p ⟨[], L, q⟩ k).q
    · have HST : Hid (fiter p ⟨[], L, q⟩ (k + 1) = fstep p (fiter p ⟨[], L, q⟩ k)) := rfl
      have HJ2 : Hid (∀ j, j < k + 1 → 0 < (fiter p ⟨[], L, q⟩ j).q) := fun j hj => by
        by_cases e : j = k
        · subst e; exact hq1
        · exact HJ.out j (by omega)
      have hfew : k + (fiter p ⟨[], L, q⟩ k).L.length ≤ L.length := fiter_few HF0.out k HJ2.out
      obtain ⟨⟨x, T, y, U, hS1, hS2, hbx, hby, hxL, hyL, hy1, n1, n2, n3, n4, c1, hL2, c2, c4, ok1⟩, hFO2⟩ := fstep_ok HFO.out hq1
      generalize fiter p ⟨[], L, q⟩ k = s at *
      have HLN : Hid (lotN s = min x.qty (min y.qty s.q)) := by show lotN s = _; unfold lotN; rw [hbx, hby]; omega
      have HFS : Hid ((fstep p s).fs = s.fs ++ [⟨x.id, y.id, p, lotN s⟩] ∧ (fstep p s).q = s.q - lotN s) := ⟨by show s.fs ++ [_] = _; rw [hbx, hby], rfl⟩
      have HBX : Hid (bestV ((b'.S 0).map Ly.o) = .tuple #[.agg #[.int .i64 x.id, .int .i64 x.side, .int .i64 x.kind, .int .i64 x.price, .int .i64 x.qty], .nilIface]) := best_is hC.lnk (by decide) hS1
      have HBY : Hid (bestV ((b'.S 1).map Ly.o) = .tuple #[.agg #[.int .i64 y.id, .int .i64 y.side, .int .i64 y.kind, .int .i64 y.price, .int .i64 y.qty], .nilIface]) := best_is hC.lnk (by decide) hS2
      have HM : Hid (x ∈ s.L ∧ y ∈ lessF x.id (lotN s) s.L ∧ LOk (lessF x.id (lotN s) s.L) ∧ (fstep p s).L = lessF y.id (lotN s) (lessF x.id (lotN s) s.L) ∧ lotN s ≤ x.qty ∧ lotN s ≤ y.qty) := ⟨hxL, hy1, ok1, hL2, n3, n4⟩
      have px := HFO.out.ok.ok x hxL
      have py := HFO.out.ok.ok y hyL
      have hxs : (x.side == 2) = false := by
        have : x ∈ sideO 1 s.L := by rw [hS1]; exact List.mem_cons_self ..
        rw [(sideO_mem.1 this).2]; rfl
      clear hS1 hS2 hbx hby hxL hyL hy1 c1 hL2 c2 c4 ok1 n3 n4 HJ hC
      go_wp2_with fail
      refine (pbBest bb (m + 2 * k) 0 b' wr HC.out.bk (by decide) 1 rfl).mono ?_
      rintro e w4 ⟨rfl, hb4⟩
      rw [HBX.out]
      have HC4 : Hid _ := HC.out.below hb4
      clear hb4 HC
      go_wp2_with fail
      have hb5 := bel1 w4 (.cells #[.int .i64 x.id, .int .i64 x.side, .int .i64 x.kind, .int .i64 x.price, .int .i64 x.qty] 40)
      have hx5 := heap_alloc_new w4 (.cells #[.int .i64 x.id, .int .i64 x.side, .int .i64 x.kind, .int .i64 x.price, .int .i64 x.qty] 40)
      generalize w4.alloc (.cells #[.int .i64 x.id, .int .i64 x.side, .int .i64 x.kind, .int .i64 x.price, .int .i64 x.qty] 40) = w5 at hb5 hx5 ⊢
      have HC5 : Hid _ := HC4.out.below hb5
      clear hb5 HC4
      refine (pbBest bb (m + 2 * k) 1 b' w5 HC5.out.bk (by decide) 2 rfl).mono ?_
      rintro e w6 ⟨rfl, hb6⟩
      rw [HBY.out]
      have HC6 : Hid _ := HC5.out.below hb6
      have hx6 := blk_below hx5 hb6 (Nat.le_refl _)
      clear hb6 HC5 hx5
      have HX6 : Hid _ := hx6
      clear hx6
      have hne : ∀ j, (Value.slice fa s.fs.length fc).ownBlock = some j → j < w6.heap.size := fun j hj => (HC6.out.fils.lt j hj).2
      have HNE : Hid _ := hne
      clear hne
      go_upto_region 8 with fail
      have hb7 := bel1 w6 (.cells #[.int .i64 y.id, .int .i64 y.side, .int .i64 y.kind, .int .i64 y.price, .int .i64 y.qty] 40)
      have hy7 := heap_alloc_new w6 (.cells #[.int .i64 y.id, .int .i64 y.side, .int .i64 y.kind, .int .i64 y.price, .int .i64 y.qty] 40)
      generalize w6.alloc (.cells #[.int .i64 y.id, .int .i64 y.side, .int .i64 y.kind, .int .i64 y.price, .int .i64 y.qty] 40) = w7 at hb7 hy7 ⊢
      have HC7 : Hid _ := HC6.out.below hb7
      have hx7 := blk_below HX6.out hb7 (Nat.le_refl _)
      have hz7 : w6.heap.size ≤ w7.heap.size := hb7.size
      have x0 := blk_cell (j := 0) hx7 rfl
      have x1 := blk_cell (j := 1) hx7 rfl
      have x2 := blk_cell (j := 2) hx7 rfl
      have x3 := blk_cell (j := 3) hx7 rfl
      have x4 := blk_cell (j := 4) hx7 rfl
      have y0 := blk_cell (j := 0) hy7 rfl
      have y1 := blk_cell (j := 1) hy7 rfl
      have y2 := blk_cell (j := 2) hy7 rfl
      have y3 := blk_cell (j := 3) hy7 rfl
      have y4 := blk_cell (j := 4) hy7 rfl
      clear hb7 hx7 hy7 HX6 HC6
      generalize w4.heap.size = xb at *
      generalize w6.heap.size = yb at *
      go_wp2_with fail
      refine (cpBetween1 x y p w7 hxs).mono ?_
      rintro e w8 ⟨rfl, hb8⟩
      have HC8 : Hid _ := HC7.out.below hb8
      have hz8 : w7.heap.size ≤ w8.heap.size := hb8.size
      clear hb8 HC7 x0 x1 x2 x3 x4 y0 y1 y2 y3 y4
      go_upto_region 9 with fail
      have hb9 := bel1 w8 (.cells #[.int .i64 x.id, .int .i64 y.id, .int .i64 p, .int .i64 (min x.qty y.qty)] 59)
      have hf9 := heap_alloc_new w8 (.cells #[.int .i64 x.id, .int .i64 y.id, .int .i64 p, .int .i64 (min x.qty y.qty)] 59)
      generalize w8.alloc (.cells #[.int .i64 x.id, .int .i64 y.id, .int .i64 p, .int .i64 (min x.qty y.qty)] 59) = w9 at hb9 hf9 ⊢
      have f3 := blk_cell (j := 3) hf9 rfl
      have ff3 := blk_free (j := 3) hf9
      have HF9 : Hid _ := hf9
      have HB9 : Hid _ := hb9
      clear hf9 hb9
      go_upto_region 10 with fail
      have hb10 := HB9.out.setCell (p := ⟨w8.heap.size, 3, none⟩) (Nat.le_refl _) (.int .i64 (min x.qty (min y.qty s.q)))
      have hf10 : FBox (w9.setCell ⟨w8.heap.size, 3, none⟩ (.int .i64 (min x.qty (min y.qty s.q)))) w8.heap.size ⟨x.id, y.id, p, min x.qty (min y.qty s.q)⟩ := blk_set (j := 3) (.int .i64 (min x.qty (min y.qty s.q))) HF9.out
      generalize w9.setCell ⟨w8.heap.size, 3, none⟩ (.int .i64 (min x.qty (min y.qty s.q))) = w10 at hb10 hf10 ⊢
      have HC10 : Hid _ := HC8.out.below hb10
      have hnb : (Value.slice fa s.fs.length fc).ownBlock ≠ some w8.heap.size := fun e => by have := HNE.out _ e; omega
      have HNB : Hid _ := hnb
      clear hb10 HC8 HB9 HF9 f3 ff3 hnb HNE hz7 hz8
      generalize w8.heap.size = fb at *
      have HF10 : Hid (FBox w10 fb ⟨x.id, y.id, p, min x.qty (min y.qty s.q)⟩) := hf10
      have f0 : w10.cell? ⟨fb, 0, none⟩ = some (.int .i64 x.id) := blk_cell (j := 0) hf10 rfl
      have f3 : w10.cell? ⟨fb, 3, none⟩ = some (.int .i64 (min x.qty (min y.qty s.q))) := blk_cell (j := 3) hf10 rfl
      rw [HLN.out] at HFS HM n1 n2
      clear hf10
      go_wp2_with fail
      refine (cpCut_yes bb (m + 2 * k) b' s.L x (min x.qty (min y.qty s.q)) w10 HC10.out.bk (by omega) HC10.out.lnk HFO.out.ok HM.out.1 ⟨n1, HM.out.2.2.2.2.1⟩).mono ?_
      rintro e w11 ⟨err1, rfl, b1, hl1, hg1⟩
      have hf11 := HC10.out.boxF hg1 HF10.out
      have HC11 : Hid _ := HC10.out.goes hg1 hl1
      have HF11 : Hid (FBox w11 fb ⟨x.id, y.id, p, min x.qty (min y.qty s.q)⟩) := hf11
      clear f0 f3 hl1 hg1 HC10 HF10
      have f1 : w11.cell? ⟨fb, 1, none⟩ = some (.int .i64 y.id) := blk_cell (j := 1) hf11 rfl
      have f3 : w11.cell? ⟨fb, 3, none⟩ = some (.int .i64 (min x.qty (min y.qty s.q))) := blk_cell (j := 3) hf11 rfl
      clear hf11
      go_wp2_with fail
      refine (cpCut_yes bb (m + 2 * k + 1) b1 (lessF x.id (min x.qty (min y.qty s.q)) s.L) y (min x.qty (min y.qty s.q)) w11 HC11.out.bk (by omega) HC11.out.lnk HM.out.2.2.1 HM.out.2.1 ⟨n1, HM.out.2.2.2.2.2⟩).mono ?_
      rintro e w12 ⟨err2, rfl, b2, hl2, hg2⟩
      have hf12 := HC11.out.boxF hg2 HF11.out
      have HC12 : Hid _ := HC11.out.goes hg2 hl2
      have HF12 : Hid (FBox w12 fb ⟨x.id, y.id, p, min x.qty (min y.qty s.q)⟩) := hf12
      clear f1 f3 hl2 hg2 HC11 HF11
      have g0 : w12.cell? ⟨fb, 0, none⟩ = some (.int .i64 x.id) := blk_cell (j := 0) hf12 rfl
      have g1 : w12.cell? ⟨fb, 1, none⟩ = some (.int .i64 y.id) := blk_cell (j := 1) hf12 rfl
      have g2 : w12.cell? ⟨fb, 2, none⟩ = some (.int .i64 p) := blk_cell (j := 2) hf12 rfl
      have g3 : w12.cell? ⟨fb, 3, none⟩ = some (.int .i64 (min x.qty (min y.qty s.q))) := blk_cell (j := 3) hf12 rfl
      clear hf12
      have hln : s.fs.length ≤ 100 := by have := HFL.out; omega
      have hwz : w.heap.size ≤ w12.heap.size := HC12.out.since.1.size
      go_wp2_with (at_builtin; refine wpList_append_own_at _ rfl _ _ 27 rfl w.heap.size 59 iF (.agg #[.int .i64 0, .int .i64 0, .int .i64 0, .int .i64 0]) 4 32 Tryz.underlying27 hiF hF0 hF1 hF2 rfl (by decide) _ s.fs.length (fV s.fs) rfl (HC12.out.fils.alloc _) ⟨w12.heap.size, 0, none⟩ 1 1 [.int .i64 x.id, .int .i64 y.id, .int .i64 p, .int .i64 (min x.qty (min y.qty s.q))] rfl rfl (World.news_of_block (cs := #[.int .i64 x.id, .int .i64 y.id, .int .i64 p, .int .i64 (min x.qty (min y.qty s.q))]) (t := 59) (fr := (0, 0)) (heap_alloc_new w12 _)) (by simp [Value.oneCell']) (by unfold maxLen; omega) (by omega) (by simp; omega) ?_; intro v13 w13 hown13 hgrow13 _ _; have f13 := blk_out HF12.out (HC12.out.pushed hgrow13) HNB.out; have c13 : w13.cell? ⟨fb, 3, none⟩ = some (.int .i64 (min x.qty (min y.qty s.q))) := blk_cell (j := 3) f13 rfl; have HC13 : Hid _ := HC12.out.push (f := ⟨x.id, y.id, p, min x.qty (min y.qty s.q)⟩) hgrow13 hown13; clear f13 hown13 hgrow13 g0 g1 g2 g3)
      go_roundw
      case rel =>
        have hk0 : s.fs.length = k := HFL.out
        refine ⟨k + 1, b2, ?_, HJ2.out, ?_, ?_, ?_⟩
        · rw [HST.out, HFS.out.2]; try go_num
        · rw [HST.out, HFS.out.1, List.length_append, List.length_singleton, hk0]
        · rw [HST.out, HFS.out.2]; omega
        · rw [HST.out, HFS.out.1, HM.out.2.2.2.1]; exact HC13.out
      case measure => simp [RowKit.intOf]; omega
    · go_wp2_with fail
      go_ret2
      exact ⟨k, _, rfl, by omega, HJ.out, b', HC.out⟩
end Go.Proofs.YtcoijhofliilmabGreatDoor

/-
  What the program's ask and tell (8.2) return of a function value that returns: the deferred function finds nothing to recover. Conditions stand in each theorem.
-/
namespace Go.Proofs.YtcoijhofliilmabGreatDoor
open Go.RowKit

theorem askD_idle (w : World) : CallsD Tryz.prog 60 #[] .returning w fun e u' w' => e = .returned (.tuple #[]) ∧ u' = .returning ∧ w' = w := by
  refine callsD_of_wpS Tryz.func60 rfl fun c₀ cs hu => ?_
  apply wpS_region
  simp [wpOpsS, go_sem, recoverD, hu, Tryz.ntmps60, bodyPostS, results, Tryz.results60]
  cases c₀
  simp_all
theorem tellD_idle (w : World) : CallsD Tryz.prog 61 #[] .returning w fun e u' w' => e = .returned (.tuple #[]) ∧ u' = .returning ∧ w' = w := by
  refine callsD_of_wpS Tryz.func61 rfl fun c₀ cs hu => ?_
  apply wpS_region
  simp [wpOpsS, go_sem, recoverD, hu, Tryz.ntmps61, bodyPostS, results, Tryz.results61]
  cases c₀
  simp_all

set_option maxHeartbeats 1000000 in
theorem cpAsk (g : Nat) (la : Array Value) (p : Int) (v : Bool) (W : World) (hen : ∀ args w, (callFunc g args).run Tryz.prog w = .ok (.enter g args) w) (Q : World → Prop)
    (hc : Calls Tryz.prog g (#[.int .i64 p] ++ la) W fun e W' => e = .returned (.bool v) ∧ Q W') :
    Calls Tryz.prog 39 #[.func (.func g) #[] la, .int .i64 p] W fun e W' => e = .returned (.bool v) ∧ Q W' := by
  go_enter_defers Tryz.func39, Tryz.ntmps39
  go_wp2_with fail
  refine hc.mono ?_
  rintro e w1 ⟨rfl, hq⟩
  have HQ : Hid (Q w1) := hq
  clear hq
  go_wp2_with fail
  refine leaves_cons (f := 60) (args := #[]) (by simp) (by simp [go_sem]) ?_
  refine (askD_idle _).mono ?_
  rintro e u' w'' ⟨rfl, rfl, rfl⟩
  exact ⟨_, results_tmp rfl _ _ _, rfl, HQ.out⟩

set_option maxHeartbeats 1000000 in
theorem cpTell (g : Nat) (la : Array Value) (p : Int) (W : World) (hen : ∀ args w, (callFunc g args).run Tryz.prog w = .ok (.enter g args) w) (Q : World → Prop)
    (hc : Calls Tryz.prog g (#[.int .i64 p] ++ la) W fun e W' => e = .returned (.tuple #[]) ∧ Q W') :
    Calls Tryz.prog 40 #[.func (.func g) #[] la, .int .i64 p] W fun e W' => e = .returned (.tuple #[]) ∧ Q W' := by
  go_enter_defers Tryz.func40, Tryz.ntmps40
  go_wp2_with fail
  refine hc.mono ?_
  rintro e w1 ⟨rfl, hq⟩
  have HQ : Hid (Q w1) := hq
  clear hq
  go_wp2_with fail
  refine leaves_cons (f := 61) (args := #[]) (by simp) (by simp [go_sem]) ?_
  refine (tellD_idle _).mono ?_
  rintro e u' w'' ⟨rfl, rfl, rfl⟩
  exact ⟨_, results_none rfl _ _ _, rfl, HQ.out⟩
end Go.Proofs.YtcoijhofliilmabGreatDoor

/-
  What lies in memory between two trades of the program's Meets (8.2), and what each of its steps leaves of it. Conditions stand in each theorem.
-/
namespace Go.Proofs.YtcoijhofliilmabGreatDoor
open Go.RowKit

theorem meet_next {al : Int → Bool} {o x : Ord} {T : List Ord} {s : MS} (hk : x.kind = 2) : meet al o (x :: T) s = meet al o T s := by
  by_cases h : s.q ≤ 0
  · rw [meet_done h, meet_done h]
  · exact meet_pass (by omega) hk
theorem wil_far {o x : Ord} (hs : o.side = 1 ∨ o.side = 2) : wilP x.price o = !farB o x := by
  unfold wilP farB
  rcases hs with h | h
  · rw [h]
    by_cases hk : o.kind = 2
    · simp [hk]
    · simp [hk]
      rw [← decide_not]
      exact decide_eq_decide.2 (by omega)
  · rw [h]
    by_cases hk : o.kind = 2
    · simp [hk]
    · simp [hk]
      rw [← decide_not]
      exact decide_eq_decide.2 (by omega)

/-- the trade of two orders at the second one's price -/
theorem cpBetween (o x : Ord) (w : World) (hs : o.side = 1 ∨ o.side = 2) :
    Calls Tryz.prog 27 #[.agg #[.int .i64 o.id, .int .i64 o.side, .int .i64 o.kind, .int .i64 o.price, .int .i64 o.qty], .agg #[.int .i64 x.id, .int .i64 x.side, .int .i64 x.kind, .int .i64 x.price, .int .i64 x.qty], .int .i64 x.price] w
      fun e w' => e = .returned (.agg #[.int .i64 (mfill o x (min o.qty x.qty)).buyer, .int .i64 (mfill o x (min o.qty x.qty)).seller, .int .i64 (mfill o x (min o.qty x.qty)).price, .int .i64 (mfill o x (min o.qty x.qty)).qty]) ∧ Below w.heap.size w w' := by
  rcases hs with h | h
  · have e : mfill o x (min o.qty x.qty) = ⟨o.id, x.id, x.price, min o.qty x.qty⟩ := if_pos h
    rw [e]
    exact cpBetween1 o x x.price w (by rw [h]; rfl)
  · have e : mfill o x (min o.qty x.qty) = ⟨x.id, o.id, x.price, min x.qty o.qty⟩ := by unfold mfill; rw [if_neg (by omega), Int.min_comm]
    rw [e]
    exact cpBetween2 o x x.price w (by rw [h]; rfl)

structure Mp (w W : World) (bb m ob rb B : Nat) (vx vf : Value) (b b' : BkS) (X : List Ord) (o : Ord) (s : MS) (St : World → List Int → (Nat → Prop) → Prop) (D0 D : Nat → Prop) : Prop where
  old : w.heap.size ≤ ob ∧ w.heap.size ≤ rb ∧ ob ≠ rb ∧ ob < B ∧ rb < B
  row : W.ownsRow B 40 5 vx X.length (oV X)
  box : OrdAt W ob (leftO o s.q)
  res : ZBox W rb
  bk : Bk W bb m b'
  lnk : Lnk b'.S s.L
  fils : W.ownsRow w.heap.size 59 4 vf s.fs.length (fV s.fs)
  told : St W s.ts D
  out : Out (fun j => b.foot bb j ∨ D0 j) w W
  went : Went w (b.foot bb) (b'.foot bb)
  dees : ∀ j, D j → D0 j ∨ w.heap.size ≤ j
  apart : ∀ j, D j → ¬ b'.foot bb j
section
variable {w W W' : World} {bb m m' ob rb B g : Nat} {lb : Array Value} {vx vf : Value} {b b' b2 : BkS} {X : List Ord} {o x : Ord} {s : MS} {St : World → List Int → (Nat → Prop) → Prop} {D0 D : Nat → Prop}
theorem Mp.below (hF : TellFn g lb St) (h : Mp w W bb m ob rb B vx vf b b' X o s St D0 D) (hb : Below W.heap.size W W') : Mp w W' bb m ob rb B vx vf b b' X o s St D0 D :=
  ⟨h.old, owns_below h.row hb (Nat.le_refl _), blk_below h.box hb (Nat.le_refl _), blk_below h.res hb (Nat.le_refl _), h.bk.below hb (Nat.le_refl _), h.lnk, owns_below h.fils hb (Nat.le_refl _), hF.keep h.told (Out.of_below (S := fun _ => False) hb (Nat.le_refl _)) (fun _ _ e => e), out_then h.out (Out.of_below hb (Nat.le_refl _)), h.went, h.dees, h.apart⟩
/-- a fill laid onto the row -/
theorem Mp.pushed (_ : Mp w W bb m ob rb B vx vf b b' X o s St D0 D) {obj : Obj} (hg : (W.alloc obj).grownBy W' vf.ownBlock) : Out (fun j => vf.ownBlock = some j) W W' := out_then (out_alloc (Out.refl _ _) _) (Out.of_grown hg (fun _ hk => hk))
theorem Mp.push (hF : TellFn g lb St) (h : Mp w W bb m ob rb B vx vf b b' X o s St D0 D) {obj : Obj} {v' : Value} {f : Fil} (hg : (W.alloc obj).grownBy W' vf.ownBlock) (hn : W'.ownsRow w.heap.size 59 4 v' (s.fs.length + 1) (fV s.fs ++ [.int .i64 f.buyer, .int .i64 f.seller, .int .i64 f.price, .int .i64 f.qty])) :
    Mp w W' bb m ob rb B vx v' b b' X o ⟨s.fs ++ [f], s.L, s.q, s.ts⟩ St D0 D := by
  have h6 := h.pushed hg
  refine ⟨h.old, owns_out h.row h6 (fun k hk => owns_types h.row h.fils (by decide) hk), blk_out h.box h6 (owns_type h.fils h.box (by decide)), blk_out h.res h6 (owns_type h.fils h.res (by decide)), h.bk.out h6 (fun k hk e => h.bk.farAny h.fils (by decide) (by decide) (by decide) (by decide) (by decide) k e hk), h.lnk, ?_, hF.keep h.told h6 (fun j hj e => ?_), h.out.trans h6 (fun k hk => Or.inr (h.fils.lt k hk).1), h.went, h.dees, h.apart⟩
  · rw [fV_snoc, List.length_append, List.length_singleton]; exact hn
  · rcases h.fils.2 with ⟨rfl, _⟩ | ⟨g, cap, cur, rfl, _, hh, _⟩
    · cases e
    · have e' : g = j := by simpa [Value.ownBlock] using e
      subst e'
      exact ((hF.far h.told _ hj).2 _ _ _ hh).2.1 rfl
/-- an order of the book cut -/
theorem Mp.cut (hF : TellFn g lb St) (h : Mp w W bb m ob rb B vx vf b b' X o s St D0 D) {L' : List Ord} (hg : Goes W W' bb m' b' b2) (hl : Lnk b2.S L') :
    Mp w W' bb m' ob rb B vx vf b b2 X o ⟨s.fs, L', s.q, s.ts⟩ St D0 D := by
  obtain ⟨g1, g2, g3⟩ := hg
  refine ⟨h.old, owns_out h.row g2 (h.bk.farAny h.row (by decide) (by decide) (by decide) (by decide) (by decide)), blk_out h.box g2 (h.bk.farBox h.box (by decide) (by decide) (by decide) (by decide) (by decide)), blk_out h.res g2 (h.bk.farBox h.res (by decide) (by decide) (by decide) (by decide) (by decide)), g1, hl, owns_out h.fils g2 (h.bk.farAny h.fils (by decide) (by decide) (by decide) (by decide) (by decide)), hF.keep h.told g2 h.apart, h.out.trans g2 (fun k hk => (h.went k hk).elim (fun e => Or.inl (Or.inl e)) Or.inr), fun k hk => ?_, h.dees, fun j hj e => ?_⟩
  · exact (g3 k hk).elim (h.went k) (fun e => Or.inr (Nat.le_trans h.out.size e))
  · rcases g3 j e with e | e
    · exact h.apart j hj e
    · have := (hF.far h.told _ hj).1
      omega
/-- the lots that are left, written -/
theorem Mp.left (hF : TellFn g lb St) (h : Mp w W bb m ob rb B vx vf b b' X o s St D0 D) (q : Int) :
    Mp w (W.setCell ⟨ob, 4, none⟩ (.int .i64 q)) bb m ob rb B vx vf b b' X o ⟨s.fs, s.L, q, s.ts⟩ St D0 D := by
  have ho : Out (fun j => j = ob) W (W.setCell ⟨ob, 4, none⟩ (.int .i64 q)) := out_set W ⟨ob, 4, none⟩ _
  obtain ⟨o1, o2, o3, o4, o5⟩ := h.old
  have hb : ¬ b'.foot bb ob := h.bk.farBox h.box (by decide) (by decide) (by decide) (by decide) (by decide)
  refine ⟨h.old, owns_out h.row ho (fun k hk e => ?_), blk_set (j := 4) (.int .i64 q) h.box, blk_out h.res ho (fun e => o3 e.symm), h.bk.out ho (fun k hk e => hb (by rw [← show k = ob from e]; exact hk)), h.lnk, owns_out h.fils ho (fun k hk e => owns_type h.fils h.box (by decide) (hk.trans (congrArg some e))), hF.keep h.told ho (fun j hj e => ?_), h.out.trans ho (fun k hk => Or.inr (by rw [show k = ob from hk]; exact o1)), h.went, h.dees, h.apart⟩
  · have := (h.row.lt k hk).1
    have e' : k = ob := e
    omega
  · have e' : j = ob := e
    subst e'
    exact ((hF.far h.told _ hj).2 _ _ _ h.box).1 rfl
/-- a price told -/
theorem Mp.tell (hF : TellFn g lb St) (h : Mp w W bb m ob rb B vx vf b b' X o s St D0 D) {D' : Nat → Prop} {p : Int} (ht : St W' (s.ts ++ [p]) D') (ho : Out D W W') (hd : ∀ j, D' j → D j ∨ W.heap.size ≤ j) :
    Mp w W' bb m ob rb B vx vf b b' X o ⟨s.fs, s.L, s.q, s.ts ++ [p]⟩ St D0 D' := by
  have hs := h.out.size
  have no : ∀ {k : Nat} {vs : Array Value} {t : TypeId} {fr : Nat × Nat}, W.heap[k]? = some (.cells vs t fr) → (t = 40 ∨ t = 59) → ¬ D k := fun hb ht hD => by
    have := (hF.far h.told _ hD).2 _ _ _ hb
    rcases ht with e | e
    · exact this.1 e
    · exact this.2.1 e
  have nr : ∀ {base' : Nat} {e : TypeId} {size n : Nat} {v : Value} {xs : List Value}, W.ownsRow base' e size v n xs → (e = 40 ∨ e = 59) → ∀ k, v.ownBlock = some k → ¬ D k := fun hr he k hk => by
    rcases hr.2 with ⟨rfl, _⟩ | ⟨g, cap, cur, rfl, _, hh, _⟩
    · cases hk
    · have e' : g = k := by simpa [Value.ownBlock] using hk
      subst e'
      exact no hh he
  refine ⟨h.old, owns_out h.row ho (nr h.row (Or.inl rfl)), blk_out h.box ho (no h.box (Or.inl rfl)), blk_out h.res ho (no h.res (Or.inl rfl)), h.bk.out ho (fun k hk e => h.apart k e hk), h.lnk, owns_out h.fils ho (nr h.fils (Or.inr rfl)), ht, h.out.trans ho (fun k hk => (h.dees k hk).elim (fun e => Or.inl (Or.inr e)) Or.inr), h.went, fun j hj => ?_, fun j hj e => ?_⟩
  · rcases hd j hj with e | e
    · exact h.dees j e
    · exact Or.inr (Nat.le_trans hs e)
  · rcases hd j hj with e' | e'
    · exact h.apart j e' e
    · have := h.bk.lt e
      omega
theorem Mp.start (hF : TellFn g lb St) {V : World} {L : List Ord} (h : Bk w bb m b) (hl : Lnk b.S L) (hst : St w [] D) (hap : ∀ j, D j → ¬ b.foot bb j) (hb : Below w.heap.size w V) (ho : OrdAt V ob o) (hr : ZBox V rb) (h1 : w.heap.size ≤ ob) (h2 : w.heap.size ≤ rb) (h3 : ob ≠ rb) (hx : W.ownsRow V.heap.size 40 5 vx X.length (oV X)) (hb2 : Below V.heap.size V W) :
    Mp w W bb m ob rb V.heap.size vx (.slice none 0 0) b b X o ⟨[], L, o.qty, []⟩ St D D := by
  have hb3 := bel_then hb hb2
  exact ⟨⟨h1, h2, h3, lt_of_block ho, lt_of_block hr⟩, hx, blk_below ho hb2 (Nat.le_refl _), blk_below hr hb2 (Nat.le_refl _), h.below hb3 (Nat.le_refl _), hl, World.ownsRow_nil _ _ _ _, hF.keep hst (Out.of_below (S := fun _ => False) hb3 (Nat.le_refl _)) (fun _ _ e => e), Out.of_below hb3 (Nat.le_refl _), Went.refl _ _, fun j hj => Or.inl hj, hap⟩
/-- what is left of o, told -/
theorem Mp.done (hF : TellFn g lb St) (h : Mp w W bb m ob rb B vx vf b b' X o s St D0 D) :
    DBox (boxed W rb (leftO o s.q)).drew rb (leftO o s.q) ∧ (boxed W rb (leftO o s.q)).drew.ownsRow w.heap.size 59 4 vf s.fs.length (fV s.fs) ∧ Bk (boxed W rb (leftO o s.q)).drew bb m b' ∧ Lnk b'.S s.L ∧ St (boxed W rb (leftO o s.q)).drew s.ts D ∧ Out (fun j => b.foot bb j ∨ D0 j) w (boxed W rb (leftO o s.q)).drew ∧ Went w (b.foot bb) (b'.foot bb) ∧ (∀ j, D j → D0 j ∨ w.heap.size ≤ j) := by
  have ho : Out (fun j => j = rb) W (boxed W rb (leftO o s.q)).drew := out_drew (boxed_out W rb (leftO o s.q))
  have hd : DBox (boxed W rb (leftO o s.q)).drew rb (leftO o s.q) := by
    unfold DBox
    rw [drew_heap]
    exact boxed_is (leftO o s.q) h.res
  generalize (boxed W rb (leftO o s.q)).drew = W' at ho hd ⊢
  obtain ⟨o1, o2, o3, o4, o5⟩ := h.old
  have hb : ¬ b'.foot bb rb := h.bk.farBox h.res (by decide) (by decide) (by decide) (by decide) (by decide)
  refine ⟨hd, owns_out h.fils ho (fun k hk e => owns_type h.fils h.res (by decide) (hk.trans (congrArg some e))), h.bk.out ho (fun k hk e => hb (by rw [← show k = rb from e]; exact hk)), h.lnk, hF.keep h.told ho (fun j hj e => ?_), h.out.trans ho (fun k hk => Or.inr (by rw [show k = rb from hk]; exact o2)), h.went, h.dees⟩
  have e' : j = rb := e
  subst e'
  exact ((hF.far h.told _ hj).2 _ _ _ h.res).1 rfl
end

/-- what Meets tells, and what it leaves -/
def MeetsP (al : Int → Bool) (o : Ord) (L : List Ord) (bb m : Nat) (b : BkS) (St : World → List Int → (Nat → Prop) → Prop) (D : Nat → Prop) (w : World) (e : Ending) (w' : World) : Prop :=
  ∃ (s : MS) (t : Bool) (vf : Value) (b' : BkS) (m' : Nat) (D' : Nat → Prop), meet al o (sideO (3 - o.side) L) ⟨[], L, o.qty, []⟩ = (s, t) ∧ m' ≤ m + 100 ∧ e = .returned (.tuple #[vf, .agg #[.int .i64 o.id, .int .i64 o.side, .int .i64 o.kind, .int .i64 o.price, .int .i64 s.q], .bool t]) ∧ w'.ownsRow w.heap.size 59 4 vf s.fs.length (fV s.fs) ∧ Bk w' bb m' b' ∧ Lnk b'.S s.L ∧ St w' s.ts D' ∧ Out (fun j => b.foot bb j ∨ D j) w w' ∧ Went w (b.foot bb) (b'.foot bb) ∧ ∀ j, D' j → D j ∨ w.heap.size ≤ j
theorem meets_p {al : Int → Bool} {o : Ord} {L : List Ord} {bb m m' : Nat} {b b' : BkS} {St : World → List Int → (Nat → Prop) → Prop} {D D' : Nat → Prop} {w w' : World} {s : MS} {t : Bool} {vf : Value} (h : meet al o (sideO (3 - o.side) L) ⟨[], L, o.qty, []⟩ = (s, t)) (hm : m' ≤ m + 100) (h2 : w'.ownsRow w.heap.size 59 4 vf s.fs.length (fV s.fs) ∧ Bk w' bb m' b' ∧ Lnk b'.S s.L ∧ St w' s.ts D' ∧ Out (fun j => b.foot bb j ∨ D j) w w' ∧ Went w (b.foot bb) (b'.foot bb) ∧ ∀ j, D' j → D j ∨ w.heap.size ≤ j) :
    MeetsP al o L bb m b St D w (.returned (.tuple #[vf, .agg #[.int .i64 o.id, .int .i64 o.side, .int .i64 o.kind, .int .i64 o.price, .int .i64 s.q], .bool t])) w' := ⟨s, t, vf, b', m', D', h, hm, rfl, h2⟩
end Go.Proofs.YtcoijhofliilmabGreatDoor
