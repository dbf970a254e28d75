/-
  The law BookPlays, walked. Conditions stand in each theorem.
-/
import Derived.Test.YtcpijeehgdbjbaaDoorMLa
import Derived.Deep.RegionWith
import Derived.Deep.CutBlock
namespace Go.Proofs.YtcpijeehgdbjbaaDoor
open Go.RowKit

/-- a row of the law's script -/
structure LieR where
  what : Int
  qty : Int
  o : Ord
/-- an argument: n rows of a script from an address on -/
structure Scr (W : World) (a : Option Addr) (n : Nat) (X : Nat → LieR) : Prop where
  cells : n = 0 ∨ ∃ b off, a = some ⟨b, off, none⟩ ∧ ∀ i, i < n → W.cell? ⟨b, off + i * 7, none⟩ = some (.int .i64 (X i).what) ∧ W.cell? ⟨b, off + i * 7 + 1, none⟩ = some (.int .i64 (X i).qty) ∧ W.cell? ⟨b, off + i * 7 + 2, none⟩ = some (.int .i64 (X i).o.id) ∧ W.cell? ⟨b, off + i * 7 + 3, none⟩ = some (.int .i64 (X i).o.side) ∧ W.cell? ⟨b, off + i * 7 + 4, none⟩ = some (.int .i64 (X i).o.kind) ∧ W.cell? ⟨b, off + i * 7 + 5, none⟩ = some (.int .i64 (X i).o.price) ∧ W.cell? ⟨b, off + i * 7 + 6, none⟩ = some (.int .i64 (X i).o.qty)
  wf : ∀ i, i < n → (Lit.int .i64 (X i).o.id).wf = true
theorem Scr.later {W W' : World} {a : Option Addr} {n : Nat} {X : Nat → LieR} (h : Scr W a n X) (hb : Below W.heap.size W W') : Scr W' a n X :=
  ⟨h.cells.imp id (fun ⟨b, off, e, hc⟩ => ⟨b, off, e, fun i hi => by
    obtain ⟨h0, h1, h2, h3, h4, h5, h6⟩ := hc i hi
    exact ⟨cell_later hb h0, cell_later hb h1, cell_later hb h2, cell_later hb h3, cell_later hb h4, cell_later hb h5, cell_later hb h6⟩⟩), h.wf⟩
/-- a row in a block of its own -/
def LieAt (W : World) (x : Nat) (r : LieR) : Prop := W.heap[x]? = some (.cells #[.int .i64 r.what, .int .i64 r.qty, .int .i64 r.o.id, .int .i64 r.o.side, .int .i64 r.o.kind, .int .i64 r.o.price, .int .i64 r.o.qty] 83 (0, 0))

theorem lie_cells {W : World} {x : Nat} {r : LieR} (h : LieAt W x r) : W.cell? ⟨x, 1, none⟩ = some (.int .i64 r.qty) ∧ W.cell? ⟨x, 2, none⟩ = some (.int .i64 r.o.id) ∧ W.cell? ⟨x, 3, none⟩ = some (.int .i64 r.o.side) ∧ W.cell? ⟨x, 4, none⟩ = some (.int .i64 r.o.kind) ∧ W.cell? ⟨x, 5, none⟩ = some (.int .i64 r.o.price) ∧ W.cell? ⟨x, 6, none⟩ = some (.int .i64 r.o.qty) ∧ LieAt W x r :=
  ⟨blk_cell (j := 1) h rfl, blk_cell (j := 2) h rfl, blk_cell (j := 3) h rfl, blk_cell (j := 4) h rfl, blk_cell (j := 5) h rfl, blk_cell (j := 6) h rfl, h⟩
theorem Pair.more {w0 w : World} {bb rb m : Nat} {b : BkS} {v : Value} {L : List Ord} (h : Pair w0 w bb rb m b v L) (hm : m + 1 ≤ 900) : Pair w0 w bb rb (m + 1) b v L := ⟨⟨h.my.bk.more (Nat.le_succ _) hm, h.my.bel, h.my.mine⟩, h.ref, h.err, h.base⟩

set_option maxRecDepth 100000 in
set_option maxHeartbeats 8000000 in
theorem plays_walk (a : Option Addr) (n c : Nat) (X : Nat → LieR) (side : Int) (w : World) (h1 : Scr w a n X) (hn : n ≤ 150) (he : ErrT w) :
    Calls Tryd.prog 7 #[.slice a n c, .int .i64 side] w fun e W' => e = .returned (.bool true) ∧ Below w.heap.size w W' := by
  have H1 : Hid (Scr w a n X) := h1
  have HE : Hid (ErrT w) := he
  clear h1 he
  have k1 : decide ((n : Int) > 150) = false := decide_eq_false (by omega)
  go_enter Tryd.func7, Tryd.ntmps7
  go_wp2_with fail
  refine (pbNew w).mono ?_
  rintro e w1 ⟨rfl, g1, g2⟩
  have M1 : Hid (MyBk w w1 (w.heap.size + 2) 0 (BkS.none_ w.heap.size)) := MyBk.start g1 g2
  clear g1 g2
  go_wp2_with fail
  have hP : Pair w (w1.alloc (.cells #[.slice none 0 0] 79)) (w.heap.size + 2) w1.heap.size 0 (BkS.none_ w.heap.size) (.slice none 0 0) [] :=
    ⟨M1.out.below (bel1 _ _), ⟨heap_alloc_new _ _, World.ownsRow_nil _ _ _ _⟩, HE.out, M1.out.bel.size⟩
  have HP : Hid (Pair w (w1.alloc (.cells #[.slice none 0 0] 79)) (w.heap.size + 2) w1.heap.size 0 (BkS.none_ w.heap.size) (.slice none 0 0) []) := hP
  clear hP M1
  generalize w1.alloc (.cells #[.slice none 0 0] 79) = w2 at HP ⊢
  generalize w1.heap.size = rb at HP ⊢
  go_loopw [7] (fun v wx => ∃ (i : Nat) (b : BkS) (vr : Value) (L : List Ord), i ≤ n ∧ v = .int .i64 i ∧ Pair w wx (w.heap.size + 2) rb i b vr L ∧ Lnk b.S L) (fun v _ => n - (intOf v).toNat)
  case atStart => exact ⟨0, _, _, _, Nat.zero_le _, rfl, HP.out, Lnk.start⟩
  case round =>
    obtain ⟨i, b, vr, L, hi, rfl, hP1, hK1⟩ := hrel
    clear HP
    have HP : Hid (Pair w wr (w.heap.size + 2) rb i b vr L) := hP1
    have HK : Hid (Lnk b.S L) := hK1
    have hL : L.length ≤ 100 := lnk_few hP1.my.bk.ok hK1
    clear hK1
    by_cases hlt : i < n
    · rcases (H1.out.later hP1.my.bel).cells with h0 | ⟨b0, off, e0, hc⟩
      · omega
      subst e0
      obtain ⟨c0, c1, c2, c3, c4, c5, c6⟩ := hc i hlt
      have hw := H1.out.wf i hlt
      have q0 : (0 : Int) ≤ (i : Int) := by omega
      have q1 : (i : Int) < (n : Int) := by omega
      generalize X i = r at c0 c1 c2 c3 c4 c5 c6 hw
      clear hP1 hc
      go_upto_block 2 with fail
      have hX : LieAt (wr.alloc (.cells #[.int .i64 r.what, .int .i64 r.qty, .int .i64 r.o.id, .int .i64 r.o.side, .int .i64 r.o.kind, .int .i64 r.o.price, .int .i64 r.o.qty] 83)) wr.heap.size r := heap_alloc_new wr _
      have hPx := HP.out.below (bel1 wr (.cells #[.int .i64 r.what, .int .i64 r.qty, .int .i64 r.o.id, .int .i64 r.o.side, .int .i64 r.o.kind, .int .i64 r.o.price, .int .i64 r.o.qty] 83))
      generalize wr.alloc (.cells #[.int .i64 r.what, .int .i64 r.qty, .int .i64 r.o.id, .int .i64 r.o.side, .int .i64 r.o.kind, .int .i64 r.o.price, .int .i64 r.o.qty] 83) = wx at hX hPx ⊢
      generalize wr.heap.size = x at hX ⊢
      have HX : Hid (LieAt wx x r) := hX
      have HPx : Hid (Pair w wx (w.heap.size + 2) rb i b vr L) := hPx
      have HQ : Hid (∀ o ∈ L, o.qty ≤ 1000000) := fun o ho => by have := HK.out.ok hPx.my.bk.ok o ho; omega
      clear c0 c1 c2 c3 c4 c5 c6 HP hX hPx
      go_cut [9, 10, 11, 12] from 31 to 130 (fun p9 p10 p11 p12 wc => ∃ (b' : BkS) (vr' : Value) (L' : List Ord), Pair w wc (w.heap.size + 2) rb (i + 1) b' vr' L' ∧ Lnk b'.S L' ∧ LieAt wc x r)
      case first =>
        have HPd : Hid (Pair w wx.drew (w.heap.size + 2) rb i b vr L) := HPx.out.below (Below.refl _ _).drew
        have HXd : Hid (LieAt wx.drew x r) := blk_below HX.out (Below.refl wx.heap.size wx).drew (Nat.le_refl _)
        by_cases g0 : r.what = 0
        · rw [g0]
          go_wp2_with fail
          have hs0 := lie_cells HX.out
          go_cut [54] from 31 to 130 (fun p wc => p = .bool false ∧ ∃ (b' : BkS) (vr' : Value) (L' : List Ord), Pair w wc (w.heap.size + 2) rb (i + 1) b' vr' L' ∧ Lnk b'.S L' ∧ LieAt wc x r)
          case first =>
            go_region_held3 (fun w' => w'.cell? ⟨x, 1, none⟩ = some (.int .i64 r.qty) ∧ w'.cell? ⟨x, 2, none⟩ = some (.int .i64 r.o.id) ∧ w'.cell? ⟨x, 3, none⟩ = some (.int .i64 r.o.side) ∧ w'.cell? ⟨x, 4, none⟩ = some (.int .i64 r.o.kind) ∧ w'.cell? ⟨x, 5, none⟩ = some (.int .i64 r.o.price) ∧ w'.cell? ⟨x, 6, none⟩ = some (.int .i64 r.o.qty) ∧ LieAt w' x r) ((first | exact lie_cells HXF.out | exact lie_cells HXA.out | exact lie_cells HXD.out | exact lie_cells HXd.out | exact lie_cells HX.out)) (first | (go_at_call 32; first | (refine (prog_add HPD.out.my.bk (by omega) HK.out r.o hw).mono ?_; rintro e w4 ⟨err, rfl, hev, b4, hlb, hg⟩; have HPA : Hid _ := HPD.out.goes hg; have HXA : Hid (LieAt w4 x r) := HPD.out.keepG hg HXD.out; clear hg) | (refine (prog_add HPd.out.my.bk (by omega) HK.out r.o hw).mono ?_; rintro e w4 ⟨err, rfl, hev, b4, hlb, hg⟩; have HPA : Hid _ := HPd.out.goes hg; have HXA : Hid (LieAt w4 x r) := HPd.out.keepG hg HXd.out; clear hg)) | (go_at_call 33; first | (refine (doc_add HPA.out hL r.o).mono ?_; rintro e w5 ⟨rfl, vD, hPD, hoD⟩; have HPD : Hid _ := hPD; have HXD : Hid (LieAt w5 x r) := HPA.out.keepD hoD HXA.out; clear hPD hoD) | (refine (doc_add HPd.out hL r.o).mono ?_; rintro e w5 ⟨rfl, vD, hPD, hoD⟩; have HPD : Hid _ := hPD; have HXD : Hid (LieAt w5 x r) := HPd.out.keepD hoD HXd.out; clear hPD hoD)) | (go_at_call 12; first | (refine (bare_yes _ _ _ HPA.out.errT (hev.is _)).mono ?_; rintro e w6 ⟨rfl, hb6⟩; have HPF : Hid _ := HPA.out.below hb6; have HXF : Hid (LieAt w6 x r) := blk_below HXA.out hb6 (Nat.le_refl _); clear hb6) | (refine (bare_yes _ _ _ HPD.out.errT (hev.is _)).mono ?_; rintro e w6 ⟨rfl, hb6⟩; have HPF : Hid _ := HPD.out.below hb6; have HXF : Hid (LieAt w6 x r) := blk_below HXD.out hb6 (Nat.le_refl _); clear hb6)))
            all_goals go_wp2_with fail
            all_goals go_meet
            all_goals exact ⟨rfl, _, _, _, HPF.out, hlb, HXF.out⟩
          case rest =>
            obtain ⟨rfl, b', vr', L', hP', hK', hX'⟩ := hcut
            have HP' : Hid (Pair w wc (w.heap.size + 2) rb (i + 1) b' vr' L') := hP'
            clear hP' hs0
            go_wp2_with fail
            go_meet
            exact ⟨b', vr', L', HP'.out, hK', hX'⟩
        by_cases g1 : r.what = 1
        · rw [g1]
          have x2 := blk_cell (j := 2) HX.out rfl
          go_wp2_with fail
          refine (doc_cancel HPx.out hL r.o.id).mono ?_
          rintro e w4 ⟨rfl, vD, hPD, hoD⟩
          have hX4 : LieAt w4 x r := HPx.out.keepD hoD HX.out
          clear hoD x2
          unfold Ord.agg
          go_upto_region 17 with fail
          have hb := bel1 w4 (.cells #[.int .i64 (canO r.o.id L).id, .int .i64 (canO r.o.id L).side, .int .i64 (canO r.o.id L).kind, .int .i64 (canO r.o.id L).price, .int .i64 (canO r.o.id L).qty] 81)
          have h9 := heap_alloc_new w4 (.cells #[.int .i64 (canO r.o.id L).id, .int .i64 (canO r.o.id L).side, .int .i64 (canO r.o.id L).kind, .int .i64 (canO r.o.id L).price, .int .i64 (canO r.o.id L).qty] 81)
          have hP5 := hPD.below hb
          have hX5 := blk_below hX4 hb (Nat.le_refl _)
          generalize w4.alloc (.cells #[.int .i64 (canO r.o.id L).id, .int .i64 (canO r.o.id L).side, .int .i64 (canO r.o.id L).kind, .int .i64 (canO r.o.id L).price, .int .i64 (canO r.o.id L).qty] 81) = w5 at h9 hP5 hX5 hb ⊢
          generalize w4.heap.size = y9 at h9 ⊢
          clear hb hPD hX4
          have HP5 : Hid (Pair w w5 (w.heap.size + 2) rb i b vD (canL r.o.id L)) := hP5
          have HX5 : Hid (LieAt w5 x r) := hX5
          have H9 : Hid (w5.heap[y9]? = some (.cells #[.int .i64 (canO r.o.id L).id, .int .i64 (canO r.o.id L).side, .int .i64 (canO r.o.id L).kind, .int .i64 (canO r.o.id L).price, .int .i64 (canO r.o.id L).qty] 81 (0, 0))) := h9
          have x2 := blk_cell (j := 2) hX5 rfl
          clear hP5 hX5 h9
          go_wp2_with fail
          refine (prog_cancel HP5.out.my.bk (by omega) HK.out r.o.id hw).mono ?_
          rintro e w6 ⟨err, rfl, hev, b4, hlb, hg⟩
          have hP6 := HP5.out.goes hg
          have hX6 : LieAt w6 x r := HP5.out.keepG hg HX5.out
          have h96 := blk_out H9.out hg.2.1 (HP5.out.my.bk.farBlk H9.out (by decide) (by decide) (by decide) (by decide) (by decide))
          clear hg x2 HP5 HX5 H9
          unfold Ord.agg
          go_upto_region 18 with fail
          have hb := bel1 w6 (.cells #[.int .i64 (canO r.o.id L).id, .int .i64 (canO r.o.id L).side, .int .i64 (canO r.o.id L).kind, .int .i64 (canO r.o.id L).price, .int .i64 (canO r.o.id L).qty] 81)
          have h11 := heap_alloc_new w6 (.cells #[.int .i64 (canO r.o.id L).id, .int .i64 (canO r.o.id L).side, .int .i64 (canO r.o.id L).kind, .int .i64 (canO r.o.id L).price, .int .i64 (canO r.o.id L).qty] 81)
          have hP7 := hP6.below hb
          have hX7 := blk_below hX6 hb (Nat.le_refl _)
          have h97 := blk_below h96 hb (Nat.le_refl _)
          generalize w6.alloc (.cells #[.int .i64 (canO r.o.id L).id, .int .i64 (canO r.o.id L).side, .int .i64 (canO r.o.id L).kind, .int .i64 (canO r.o.id L).price, .int .i64 (canO r.o.id L).qty] 81) = w7 at h11 hP7 hX7 h97 hb ⊢
          generalize w6.heap.size = y11 at h11 ⊢
          clear hb hP6 hX6 h96
          have HP7 : Hid (Pair w w7 (w.heap.size + 2) rb (i + 1) b4 vD (canL r.o.id L)) := hP7
          have HX7 : Hid (LieAt w7 x r) := hX7
          have H97 : Hid (w7.heap[y9]? = some (.cells #[.int .i64 (canO r.o.id L).id, .int .i64 (canO r.o.id L).side, .int .i64 (canO r.o.id L).kind, .int .i64 (canO r.o.id L).price, .int .i64 (canO r.o.id L).qty] 81 (0, 0))) := h97
          have H11 : Hid (w7.heap[y11]? = some (.cells #[.int .i64 (canO r.o.id L).id, .int .i64 (canO r.o.id L).side, .int .i64 (canO r.o.id L).kind, .int .i64 (canO r.o.id L).price, .int .i64 (canO r.o.id L).qty] 81 (0, 0))) := h11
          clear hP7 hX7 h97 h11
          go_wp2_with fail
          refine (bare_yes _ _ _ HP7.out.errT (hev.is _)).mono ?_
          rintro e w8 ⟨rfl, hb8⟩
          have HP8 : Hid (Pair w w8 (w.heap.size + 2) rb (i + 1) b4 vD (canL r.o.id L)) := HP7.out.below hb8
          have HX8 : Hid (LieAt w8 x r) := blk_below HX7.out hb8 (Nat.le_refl _)
          have h98 := blk_below H97.out hb8 (Nat.le_refl _)
          have h118 := blk_below H11.out hb8 (Nat.le_refl _)
          have n0 := blk_cell (j := 0) h98 rfl
          have t0 := blk_cell (j := 0) h118 rfl
          have n1 := blk_cell (j := 1) h98 rfl
          have t1 := blk_cell (j := 1) h118 rfl
          have n2 := blk_cell (j := 2) h98 rfl
          have t2 := blk_cell (j := 2) h118 rfl
          have n3 := blk_cell (j := 3) h98 rfl
          have t3 := blk_cell (j := 3) h118 rfl
          have n4 := blk_cell (j := 4) h98 rfl
          have t4 := blk_cell (j := 4) h118 rfl
          clear hb8 h98 h118 HP7 HX7 H97 H11
          go_wp2_with fail
          go_meet
          exact ⟨b4, vD, canL r.o.id L, HP8.out, hlb, HX8.out⟩
        by_cases g2 : r.what = 2
        · rw [g2]
          go_wp2_with fail
          have hs0 := lie_cells HX.out
          go_cut [99] from 31 to 130 (fun p wc => p = .bool false ∧ ∃ (b' : BkS) (vr' : Value) (L' : List Ord), Pair w wc (w.heap.size + 2) rb (i + 1) b' vr' L' ∧ Lnk b'.S L' ∧ LieAt wc x r)
          case first =>
            go_region_held3 (fun w' => w'.cell? ⟨x, 1, none⟩ = some (.int .i64 r.qty) ∧ w'.cell? ⟨x, 2, none⟩ = some (.int .i64 r.o.id) ∧ w'.cell? ⟨x, 3, none⟩ = some (.int .i64 r.o.side) ∧ w'.cell? ⟨x, 4, none⟩ = some (.int .i64 r.o.kind) ∧ w'.cell? ⟨x, 5, none⟩ = some (.int .i64 r.o.price) ∧ w'.cell? ⟨x, 6, none⟩ = some (.int .i64 r.o.qty) ∧ LieAt w' x r) ((first | exact lie_cells HXF.out | exact lie_cells HXA.out | exact lie_cells HXD.out | exact lie_cells HXd.out | exact lie_cells HX.out)) (first | (go_at_call 36; first | (refine (prog_cut HPD.out.my.bk (by omega) HK.out r.o.id r.qty hw).mono ?_; rintro e w4 ⟨err, rfl, hev, b4, hlb, hg⟩; have HPA : Hid _ := HPD.out.goes hg; have HXA : Hid (LieAt w4 x r) := HPD.out.keepG hg HXD.out; clear hg) | (refine (prog_cut HPd.out.my.bk (by omega) HK.out r.o.id r.qty hw).mono ?_; rintro e w4 ⟨err, rfl, hev, b4, hlb, hg⟩; have HPA : Hid _ := HPd.out.goes hg; have HXA : Hid (LieAt w4 x r) := HPd.out.keepG hg HXd.out; clear hg)) | (go_at_call 37; first | (refine (doc_cut HPA.out hL HQ.out r.o.id r.qty).mono ?_; rintro e w5 ⟨rfl, vD, hPD, hoD⟩; have HPD : Hid _ := hPD; have HXD : Hid (LieAt w5 x r) := HPA.out.keepD hoD HXA.out; clear hPD hoD) | (refine (doc_cut HPd.out hL HQ.out r.o.id r.qty).mono ?_; rintro e w5 ⟨rfl, vD, hPD, hoD⟩; have HPD : Hid _ := hPD; have HXD : Hid (LieAt w5 x r) := HPd.out.keepD hoD HXd.out; clear hPD hoD)) | (go_at_call 12; first | (refine (bare_yes _ _ _ HPA.out.errT (hev.is _)).mono ?_; rintro e w6 ⟨rfl, hb6⟩; have HPF : Hid _ := HPA.out.below hb6; have HXF : Hid (LieAt w6 x r) := blk_below HXA.out hb6 (Nat.le_refl _); clear hb6) | (refine (bare_yes _ _ _ HPD.out.errT (hev.is _)).mono ?_; rintro e w6 ⟨rfl, hb6⟩; have HPF : Hid _ := HPD.out.below hb6; have HXF : Hid (LieAt w6 x r) := blk_below HXD.out hb6 (Nat.le_refl _); clear hb6)))
            all_goals go_wp2_with fail
            all_goals go_meet
            all_goals exact ⟨rfl, _, _, _, HPF.out, hlb, HXF.out⟩
          case rest =>
            obtain ⟨rfl, b', vr', L', hP', hK', hX'⟩ := hcut
            have HP' : Hid (Pair w wc (w.heap.size + 2) rb (i + 1) b' vr' L') := hP'
            clear hP' hs0
            go_wp2_with fail
            go_meet
            exact ⟨b', vr', L', HP'.out, hK', hX'⟩
        have e0 : (r.what == 0) = false := beq_eq_false_iff_ne.2 g0
        have e1 : (r.what == 1) = false := beq_eq_false_iff_ne.2 g1
        have e2 : (r.what == 2) = false := beq_eq_false_iff_ne.2 g2
        clear g0 g1 g2
        go_wp2_with fail
        go_meet
        exact ⟨b, vr, L, HPx.out.more (by omega), HK.out, HX.out⟩
      case rest =>
        obtain ⟨b', vr', L', hP', hK', hX'⟩ := hcut
        have hL' : L'.length ≤ 100 := lnk_few hP'.my.bk.ok hK'
        have HK' : Hid (Lnk b'.S L') := hK'
        have HP' : Hid (Pair w wc (w.heap.size + 2) rb (i + 1) b' vr' L') := hP'
        have HX' : Hid (LieAt wc x r) := hX'
        have x2 := blk_cell (j := 2) hX' rfl
        clear hP' hK' hX' HPx HX HK hL HQ
        go_wp2_with fail
        refine (doc_order HP'.out hL' r.o.id).mono ?_
        rintro e w4 ⟨rfl, hb4⟩
        have hX4 := blk_below HX'.out hb4 (Nat.le_refl _)
        have hP4 := HP'.out.below hb4
        clear x2 hb4
        unfold Ord.agg
        go_upto_region 24 with fail
        have hb := bel1 w4 (.cells #[.int .i64 (canO r.o.id L').id, .int .i64 (canO r.o.id L').side, .int .i64 (canO r.o.id L').kind, .int .i64 (canO r.o.id L').price, .int .i64 (canO r.o.id L').qty] 81)
        have h9 := heap_alloc_new w4 (.cells #[.int .i64 (canO r.o.id L').id, .int .i64 (canO r.o.id L').side, .int .i64 (canO r.o.id L').kind, .int .i64 (canO r.o.id L').price, .int .i64 (canO r.o.id L').qty] 81)
        have hP5 := hP4.below hb
        have hX5 := blk_below hX4 hb (Nat.le_refl _)
        generalize w4.alloc (.cells #[.int .i64 (canO r.o.id L').id, .int .i64 (canO r.o.id L').side, .int .i64 (canO r.o.id L').kind, .int .i64 (canO r.o.id L').price, .int .i64 (canO r.o.id L').qty] 81) = w5 at h9 hP5 hX5 hb ⊢
        generalize w4.heap.size = y9 at h9 ⊢
        clear hb hP4 hX4
        have HP5 : Hid (Pair w w5 (w.heap.size + 2) rb (i + 1) b' vr' L') := hP5
        have H9 : Hid (w5.heap[y9]? = some (.cells #[.int .i64 (canO r.o.id L').id, .int .i64 (canO r.o.id L').side, .int .i64 (canO r.o.id L').kind, .int .i64 (canO r.o.id L').price, .int .i64 (canO r.o.id L').qty] 81 (0, 0))) := h9
        have x2 := blk_cell (j := 2) hX5 rfl
        clear hP5 hX5 h9
        go_wp2_with fail
        refine (prog_order HP5.out.my.bk HK'.out r.o.id hw).mono ?_
        rintro e w6 ⟨err, rfl, hev, hb6⟩
        have hP6 := HP5.out.below hb6
        have h96 := blk_below H9.out hb6 (Nat.le_refl _)
        clear hb6 x2 HP5 H9
        unfold Ord.agg
        go_upto_region 25 with fail
        have hb := bel1 w6 (.cells #[.int .i64 (canO r.o.id L').id, .int .i64 (canO r.o.id L').side, .int .i64 (canO r.o.id L').kind, .int .i64 (canO r.o.id L').price, .int .i64 (canO r.o.id L').qty] 81)
        have h11 := heap_alloc_new w6 (.cells #[.int .i64 (canO r.o.id L').id, .int .i64 (canO r.o.id L').side, .int .i64 (canO r.o.id L').kind, .int .i64 (canO r.o.id L').price, .int .i64 (canO r.o.id L').qty] 81)
        have hP7 := hP6.below hb
        have h97 := blk_below h96 hb (Nat.le_refl _)
        generalize w6.alloc (.cells #[.int .i64 (canO r.o.id L').id, .int .i64 (canO r.o.id L').side, .int .i64 (canO r.o.id L').kind, .int .i64 (canO r.o.id L').price, .int .i64 (canO r.o.id L').qty] 81) = w7 at h11 hP7 h97 hb ⊢
        generalize w6.heap.size = y11 at h11 ⊢
        clear hb hP6 h96
        have HP7 : Hid (Pair w w7 (w.heap.size + 2) rb (i + 1) b' vr' L') := hP7
        have H97 : Hid (w7.heap[y9]? = some (.cells #[.int .i64 (canO r.o.id L').id, .int .i64 (canO r.o.id L').side, .int .i64 (canO r.o.id L').kind, .int .i64 (canO r.o.id L').price, .int .i64 (canO r.o.id L').qty] 81 (0, 0))) := h97
        have H11 : Hid (w7.heap[y11]? = some (.cells #[.int .i64 (canO r.o.id L').id, .int .i64 (canO r.o.id L').side, .int .i64 (canO r.o.id L').kind, .int .i64 (canO r.o.id L').price, .int .i64 (canO r.o.id L').qty] 81 (0, 0))) := h11
        clear hP7 h97 h11
        go_wp2_with fail
        refine (bare_yes _ _ _ HP7.out.errT (hev.is _)).mono ?_
        rintro e w8 ⟨rfl, hb8⟩
        have HP8 : Hid (Pair w w8 (w.heap.size + 2) rb (i + 1) b' vr' L') := HP7.out.below hb8
        have h98 := blk_below H97.out hb8 (Nat.le_refl _)
        have h118 := blk_below H11.out hb8 (Nat.le_refl _)
        have n0 := blk_cell (j := 0) h98 rfl
        have t0 := blk_cell (j := 0) h118 rfl
        have n1 := blk_cell (j := 1) h98 rfl
        have t1 := blk_cell (j := 1) h118 rfl
        have n2 := blk_cell (j := 2) h98 rfl
        have t2 := blk_cell (j := 2) h118 rfl
        have n3 := blk_cell (j := 3) h98 rfl
        have t3 := blk_cell (j := 3) h118 rfl
        have n4 := blk_cell (j := 4) h98 rfl
        have t4 := blk_cell (j := 4) h118 rfl
        clear hb8 h98 h118 HP7 H97 H11
        go_wp2_with fail
        refine (same_yes _ rb _ _ b' vr' L' _ HP8.out.my.bk HP8.out.ref HK'.out HP8.out.errT).mono ?_
        rintro e w9 ⟨rfl, hb9⟩
        have HP9 : Hid (Pair w w9 (w.heap.size + 2) rb (i + 1) b' vr' L') := HP8.out.below hb9
        clear hb9 n0 n1 n2 n3 n4 t0 t1 t2 t3 t4
        go_wp2_with fail
        go_roundw
        case rel => exact ⟨i + 1, b', vr', L', by omega, by go_num, HP9.out, HK'.out⟩
        case measure => simp [intOf]; omega
    · have q1 : ¬ (i : Int) < (n : Int) := by omega
      have HPE : Hid (Pair w wr (w.heap.size + 2) rb i b vr L) := hP1
      clear hP1 HP
      by_cases s1 : side = 1
      · subst s1
        go_wp2_with fail
        go_ret
        exact ⟨rfl, HPE.out.my.bel⟩
      by_cases s2 : side = 2
      · subst s2
        go_wp2_with fail
        go_ret
        exact ⟨rfl, HPE.out.my.bel⟩
      have b1 : (side == 1) = false := beq_eq_false_iff_ne.2 s1
      have b2 : (side == 2) = false := beq_eq_false_iff_ne.2 s2
      have hss : (side == 1 || side == 2) = false := by rw [b1, b2]; rfl
      clear s1 s2
      go_wp2_with fail
      refine (side_arg _ _ side hss).mono ?_
      rintro e w3 ⟨rfl, hb3⟩
      have HP3 : Hid (Pair w w3 (w.heap.size + 2) rb i b vr L) := HPE.out.below hb3
      clear hb3
      go_wp2_with fail
      refine (best_arg _ _ side hss).mono ?_
      rintro e w4 ⟨rfl, hb4⟩
      have HP4 : Hid (Pair w w4 (w.heap.size + 2) rb i b vr L) := HP3.out.below hb4
      clear hb4
      unfold Ord.agg Ord.none_
      go_wp2_with fail
      refine (depth_arg _ _ side hss).mono ?_
      rintro e w5 ⟨rfl, hb5⟩
      have HP5 : Hid (Pair w w5 (w.heap.size + 2) rb i b vr L) := (HP4.out.below (bel1 _ _)).below hb5
      clear hb5
      go_wp2_with fail
      refine (bare_yes _ _ _ HP5.out.errT (Or.inr (Or.inl ⟨rfl, rfl⟩))).mono ?_
      rintro e w6 ⟨rfl, hb6⟩
      have HP6 : Hid (Pair w w6 (w.heap.size + 2) rb i b vr L) := HP5.out.below hb6
      clear hb6
      go_wp2_with fail
      refine (bare_yes _ _ _ HP6.out.errT (Or.inr (Or.inl ⟨rfl, rfl⟩))).mono ?_
      rintro e w7 ⟨rfl, hb7⟩
      have HP7 : Hid (Pair w w7 (w.heap.size + 2) rb i b vr L) := HP6.out.below hb7
      clear hb7
      go_wp2_with fail
      refine (bare_yes _ _ _ HP7.out.errT (Or.inr (Or.inl ⟨rfl, rfl⟩))).mono ?_
      rintro e w8 ⟨rfl, hb8⟩
      have HP8 : Hid (Pair w w8 (w.heap.size + 2) rb i b vr L) := HP7.out.below hb8
      clear hb8
      go_wp2_with fail
      go_ret
      exact ⟨rfl, HP8.out.my.bel⟩
end Go.Proofs.YtcpijeehgdbjbaaDoor
