/-
  What the program's find and Order return, over this seat's translation. Conditions stand in each theorem.
-/
import Derived.Test.YtcoijhofliilmabHE
namespace Go.Proofs.Ytcoijhofliilmab
open Go.RowKit

attribute [local go_sem ↓] Go.wp_at_zero Go.wp_at_succ

def five (w : World) (b : Nat) (o : Ord) : World := ((((w.setCell ⟨b, 0, none⟩ (.int .i64 o.id)).setCell ⟨b, 1, none⟩ (.int .i64 o.side)).setCell ⟨b, 2, none⟩ (.int .i64 o.kind)).setCell ⟨b, 3, none⟩ (.int .i64 o.price)).setCell ⟨b, 4, none⟩ (.int .i64 o.qty)
def three (w : World) (b : Nat) (k a s : Int) : World := ((w.setCell ⟨b, 0, none⟩ (.int .i64 k)).setCell ⟨b, 1, none⟩ (.int .i64 a)).setCell ⟨b, 2, none⟩ (.int .i64 s)
theorem five_out (w : World) (b : Nat) (o : Ord) : Out (fun j => j = b) w (five w b o) := out_five w b _ _ _ _ _
theorem three_out (w : World) (b : Nat) (k a s : Int) : Out (fun j => j = b) w (three w b k a s) :=
  ((out_set w ⟨b, 0, none⟩ _).trans (out_set _ ⟨b, 1, none⟩ _) (Went.refl _ _)).trans (out_set _ ⟨b, 2, none⟩ _) (Went.refl _ _)
theorem five_is {w : World} {b : Nat} {u0 u1 u2 u3 u4 : Value} {t : TypeId} (o : Ord) (h : w.heap[b]? = some (.cells #[u0, u1, u2, u3, u4] t (0, 0))) : (five w b o).heap[b]? = some (.cells #[.int .i64 o.id, .int .i64 o.side, .int .i64 o.kind, .int .i64 o.price, .int .i64 o.qty] t (0, 0)) :=
  blk_set (j := 4) _ (blk_set (j := 3) _ (blk_set (j := 2) _ (blk_set (j := 1) _ (blk_set (j := 0) _ h))))
theorem three_is {w : World} {b : Nat} {u0 u1 u2 : Value} {t : TypeId} (k a s : Int) (h : w.heap[b]? = some (.cells #[u0, u1, u2] t (0, 0))) : (three w b k a s).heap[b]? = some (.cells #[.int .i64 k, .int .i64 a, .int .i64 s] t (0, 0)) :=
  blk_set (j := 2) _ (blk_set (j := 1) _ (blk_set (j := 0) _ h))
def plV (x : Ly) (s : Nat) : Value := .agg #[.int .i64 x.slot, .int .i64 x.age, .int .i64 s]

set_option maxRecDepth 100000 in
set_option maxHeartbeats 2000000 in
theorem find_no (bb m : Nat) (b : BkS) (id : Int) (w : World) (h : Bk w bb m b) (hw : (Lit.int .i64 id).wf = true) (hno : ∀ s, s < 2 → ∀ x ∈ b.S s, x.o.id ≠ id) :
    Calls Try.prog 63 #[.pointer (some ⟨bb, 0, none⟩), .int .i64 id] w fun e W' => e = .returned (.tuple #[Ord.none_.agg, .agg #[.int .i64 0, .int .i64 0, .int .i64 0], .iface 75 (.int .i64 7)]) ∧ Below w.heap.size w W' := by
  have HB2 := bel2 w (.cells #[.int .i64 0, .int .i64 0, .int .i64 0, .int .i64 0, .int .i64 0] 40) (.cells #[.int .i64 0, .int .i64 0, .int .i64 0] 80)
  have hbk := h.below HB2 (Nat.le_refl _)
  have m1 : w.cell? ⟨bb, 1, none⟩ = some (.map (some b.mb)) := blk_cell (j := 1) h.at_.box rfl
  have hrun := hbk.at_.map.no hno hw
  have lb : bb < w.heap.size := h.lt (Or.inl rfl)
  clear h hbk hno hw HB2
  go_enter Try.func63, Try.ntmps63
  go_wp2
  refine bodyPost_ret (by simp [results, Try.results63, go_sem]; try rfl) rfl ?_
  refine ⟨rfl, ?_⟩
  (repeat' first | assumption | exact Below.refl _ _ | exact Nat.le_refl _ | refine Below.drew ?_ | refine Below.alloc ?_ ?_ _ | (simp; done) | (simp; omega))

set_option maxRecDepth 100000 in
set_option maxHeartbeats 4000000 in
theorem find_yes (bb m s : Nat) (b : BkS) (x : Ly) (w : World) (h : Bk w bb m b) (hs : s < 2) (hx : x ∈ b.S s) :
    Calls Try.prog 63 #[.pointer (some ⟨bb, 0, none⟩), .int .i64 x.o.id] w fun e W' => e = .returned (.tuple #[x.o.agg, plV x s, .nilIface]) ∧ Below w.heap.size w W' := by
  have HB2 := bel2 w (.cells #[.int .i64 0, .int .i64 0, .int .i64 0, .int .i64 0, .int .i64 0] 40) (.cells #[.int .i64 0, .int .i64 0, .int .i64 0] 80)
  have hbk := h.below HB2 (Nat.le_refl _)
  have m1 : w.cell? ⟨bb, 1, none⟩ = some (.map (some b.mb)) := blk_cell (j := 1) h.at_.box rfl
  have hrun := hbk.at_.map.yes hs hx (h.ok.ok s hs x hx).2.1
  have lb : bb < w.heap.size := h.lt (Or.inl rfl)
  have HO : Hid (soAt b.rs x.slot = (some x.o, x.age)) := h.ok.there s hs x hx
  have H : Hid (Bk w bb m b) := h
  clear h hbk HB2
  unfold Ord.agg plV
  go_enter Try.func63, Try.ntmps63
  go_upto_region 4 with fail
  have hb2 := bel2 w (.cells #[.int .i64 0, .int .i64 0, .int .i64 0, .int .i64 0, .int .i64 0] 40) (.cells #[.int .i64 0, .int .i64 0, .int .i64 0] 80)
  have hr1 := two_old w (.cells #[.int .i64 0, .int .i64 0, .int .i64 0, .int .i64 0, .int .i64 0] 40) (.cells #[.int .i64 0, .int .i64 0, .int .i64 0] 80)
  have hr2 := two_new w (.cells #[.int .i64 0, .int .i64 0, .int .i64 0, .int .i64 0, .int .i64 0] 40) (.cells #[.int .i64 0, .int .i64 0, .int .i64 0] 80)
  have hsz : ((w.alloc (.cells #[.int .i64 0, .int .i64 0, .int .i64 0, .int .i64 0, .int .i64 0] 40)).alloc (.cells #[.int .i64 0, .int .i64 0, .int .i64 0] 80)).heap.size = w.heap.size + 1 + 1 := by simp
  generalize (w.alloc (.cells #[.int .i64 0, .int .i64 0, .int .i64 0, .int .i64 0, .int .i64 0] 40)).alloc (.cells #[.int .i64 0, .int .i64 0, .int .i64 0] 80) = wq at hb2 hr1 hr2 hsz ⊢
  have hb3 := bel1 wq (.cells #[.int .i64 x.slot, .int .i64 x.age, .int .i64 s] 80)
  have hr3 := heap_alloc_new wq (.cells #[.int .i64 x.slot, .int .i64 x.age, .int .i64 s] 80)
  rw [hsz] at hr3
  have hr1 := blk_below hr1 hb3 (Nat.le_refl _)
  have hr2 := blk_below hr2 hb3 (Nat.le_refl _)
  have hbp := bel_then hb2 hb3
  generalize wq.alloc (.cells #[.int .i64 x.slot, .int .i64 x.age, .int .i64 s] 80) = wp at hb3 hr1 hr2 hr3 hbp ⊢
  have HB : Hid (Below w.heap.size w wp) := hbp
  have HR1 : Hid (wp.heap[w.heap.size]? = some (.cells #[.int .i64 0, .int .i64 0, .int .i64 0, .int .i64 0, .int .i64 0] 40 (0, 0))) := hr1
  have HR2 : Hid (wp.heap[w.heap.size + 1]? = some (.cells #[.int .i64 0, .int .i64 0, .int .i64 0] 80 (0, 0))) := hr2
  have HR3 : Hid (wp.heap[w.heap.size + 1 + 1]? = some (.cells #[.int .i64 x.slot, .int .i64 x.age, .int .i64 s] 80 (0, 0))) := hr3
  have HBK : Hid (Bk wp bb m b) := H.out.below hbp (Nat.le_refl _)
  clear hb2 hb3 hr1 hr2 hr3 hbp hsz m1 hrun
  have HS : Hid (∀ w', Below wp.heap.size wp w' → (w'.cell? ⟨bb, 0, none⟩ = some (.pointer (some ⟨b.ab, 0, none⟩)) ∧ w'.cell? ⟨w.heap.size + 1 + 1, 0, none⟩ = some (.int .i64 x.slot) ∧ w'.cell? ⟨w.heap.size + 1 + 1, 1, none⟩ = some (.int .i64 x.age) ∧ Below wp.heap.size wp w')) := fun w' hb =>
    ⟨blk_cell (j := 0) (blk_below HBK.out.at_.box hb (Nat.le_refl _)) rfl, blk_cell (j := 0) (blk_below HR3.out hb (Nat.le_refl _)) rfl, blk_cell (j := 1) (blk_below HR3.out hb (Nat.le_refl _)) rfl, hb⟩
  have hs0 := HS.out wp (Below.refl _ _)
  go_cut [9, 10] from 25 to 34 (fun p9 p10 wd => p10 = .nilIface ∧ ∃ xb, p9 = .pointer (some ⟨xb, 0, none⟩) ∧ wp.heap.size ≤ xb ∧ OrdAt wd xb x.o ∧ Below wp.heap.size wp wd)
  case first =>
    go_region_held3 (fun w' => w'.cell? ⟨bb, 0, none⟩ = some (.pointer (some ⟨b.ab, 0, none⟩)) ∧ w'.cell? ⟨w.heap.size + 1 + 1, 0, none⟩ = some (.int .i64 x.slot) ∧ w'.cell? ⟨w.heap.size + 1 + 1, 1, none⟩ = some (.int .i64 x.age) ∧ Below wp.heap.size wp w')
      ((refine HS.out _ ?_; (repeat' first | assumption | exact Below.refl _ _ | exact Nat.le_refl _ | refine Below.drew ?_ | refine Below.alloc ?_ ?_ _ | refine bel_then ?_ hb1 | refine Below.setCell ?_ ?_ _ | (simp; done) | (simp; omega) | (have h9 := hb1.size; simp at h9 ⊢; omega))))
      (first | (go_at_call 60; refine (oaGet b.ab 100 b.vs b.vf b.rs b.fr x.slot x.o x.age _ (HBK.out.at_.ar.below (B := wp.heap.size) ?_ (Nat.le_refl _)) HO.out).mono ?_; (repeat' first | assumption | exact Below.refl _ _ | exact Nat.le_refl _ | refine Below.drew ?_ | refine Below.alloc ?_ ?_ _ | (simp; done) | (simp; omega)); rintro e w1 ⟨hb1, rfl⟩; unfold Ord.agg; try (have hxb := (hb1.block wp.heap.size (by simp)).trans (heap_alloc_new wp _); have y0 := blk_cell (j := 0) hxb rfl; have y1 := blk_cell (j := 1) hxb rfl; have y2 := blk_cell (j := 2) hxb rfl; have y3 := blk_cell (j := 3) hxb rfl; have y4 := blk_cell (j := 4) hxb rfl; have z0 := blk_free (j := 0) hxb; have z1 := blk_free (j := 1) hxb; have z2 := blk_free (j := 2) hxb; have z3 := blk_free (j := 3) hxb; have z4 := blk_free (j := 4) hxb)))
    · go_wp2_with fail
      go_meet
      exact ⟨rfl, w1.heap.size, rfl, hb1.size, heap_alloc_new w1 _, bel_then (w1 := w1) (bel_then (w := wp) (w1 := wp.drew) (Below.refl _ _).drew hb1) (bel1 _ _)⟩
    · go_wp2_with fail
      go_meet
      refine ⟨rfl, wp.heap.size, rfl, Nat.le_refl _, blk_set (j := 4) (.int .i64 x.o.qty) (blk_set (j := 3) (.int .i64 x.o.price) (blk_set (j := 2) (.int .i64 x.o.kind) (blk_set (j := 1) (.int .i64 x.o.side) (blk_set (j := 0) (.int .i64 x.o.id) hxb)))), ?_⟩
      have h8 : Below wp.heap.size wp w1 := bel_then (bel1 wp _).drew hb1
      exact ((((h8.setCell (p := ⟨wp.heap.size, 0, none⟩) (Nat.le_refl _) _).setCell (p := ⟨wp.heap.size, 1, none⟩) (Nat.le_refl _) _).setCell (p := ⟨wp.heap.size, 2, none⟩) (Nat.le_refl _) _).setCell (p := ⟨wp.heap.size, 3, none⟩) (Nat.le_refl _) _).setCell (p := ⟨wp.heap.size, 4, none⟩) (Nat.le_refl _) _
  case rest =>
    obtain ⟨rfl, xb, rfl, hxl, hxo, hbd⟩ := hcut
    have g1 := blk_below HR1.out hbd (Nat.le_refl _)
    have g2 := blk_below HR2.out hbd (Nat.le_refl _)
    have g3 := blk_below HR3.out hbd (Nat.le_refl _)
    have lp : w.heap.size + 1 + 1 < wp.heap.size := lt_of_block HR3.out
    have HBD : Hid (Below w.heap.size w wc) := bel_then HB.out hbd
    have x0 := blk_cell (j := 0) hxo rfl
    have x1 := blk_cell (j := 1) hxo rfl
    have x2 := blk_cell (j := 2) hxo rfl
    have x3 := blk_cell (j := 3) hxo rfl
    have x4 := blk_cell (j := 4) hxo rfl
    have p0 := blk_cell (j := 0) g3 rfl
    have p1 := blk_cell (j := 1) g3 rfl
    have p2 := blk_cell (j := 2) g3 rfl
    have n1 : xb ≠ w.heap.size := by omega
    have n2 : xb ≠ w.heap.size + 1 := by omega
    have HXO : Hid (OrdAt wc xb x.o) := hxo
    have HG3 : Hid (wc.heap[w.heap.size + 1 + 1]? = some (.cells #[.int .i64 x.slot, .int .i64 x.age, .int .i64 s] 80 (0, 0))) := g3
    have HG1 : Hid _ := g1
    have HG2 : Hid _ := g2
    have a0 := blk_cell (j := 0) g1 rfl
    have a1 := blk_cell (j := 1) g1 rfl
    have a2 := blk_cell (j := 2) g1 rfl
    have a3 := blk_cell (j := 3) g1 rfl
    have a4 := blk_cell (j := 4) g1 rfl
    have b0 := blk_cell (j := 0) g2 rfl
    have b1 := blk_cell (j := 1) g2 rfl
    have b2 := blk_cell (j := 2) g2 rfl
    have f0 := blk_free (j := 0) g1
    have f1 := blk_free (j := 1) g1
    have f2 := blk_free (j := 2) g1
    have f3 := blk_free (j := 3) g1
    have f4 := blk_free (j := 4) g1
    have f5 := blk_free (j := 0) g2
    have f6 := blk_free (j := 1) g2
    have f7 := blk_free (j := 2) g2
    clear hs0 HS hbd hxo g1 g2 g3 hxl lp
    go_wp2_with fail
    have HS5 : Hid (∀ w', Out (fun j => j = w.heap.size ∨ j = w.heap.size + 1) wc w' → (w'.cell? ⟨xb, 0, none⟩ = some (.int .i64 x.o.id) ∧ w'.cell? ⟨xb, 1, none⟩ = some (.int .i64 x.o.side) ∧ w'.cell? ⟨xb, 2, none⟩ = some (.int .i64 x.o.kind) ∧ w'.cell? ⟨xb, 3, none⟩ = some (.int .i64 x.o.price) ∧ w'.cell? ⟨xb, 4, none⟩ = some (.int .i64 x.o.qty) ∧ w'.cell? ⟨w.heap.size + 1 + 1, 0, none⟩ = some (.int .i64 x.slot) ∧ w'.cell? ⟨w.heap.size + 1 + 1, 1, none⟩ = some (.int .i64 x.age) ∧ w'.cell? ⟨w.heap.size + 1 + 1, 2, none⟩ = some (.int .i64 s) ∧ Out (fun j => j = w.heap.size ∨ j = w.heap.size + 1) wc w')) := fun w' ho => by
      have k1 := blk_out HXO.out ho (fun e => by rcases e with e | e <;> omega)
      have k2 := blk_out HG3.out ho (fun e => by rcases e with e | e <;> omega)
      exact ⟨blk_cell (j := 0) k1 rfl, blk_cell (j := 1) k1 rfl, blk_cell (j := 2) k1 rfl, blk_cell (j := 3) k1 rfl, blk_cell (j := 4) k1 rfl, blk_cell (j := 0) k2 rfl, blk_cell (j := 1) k2 rfl, blk_cell (j := 2) k2 rfl, ho⟩
    have hs1 := HS5.out wc (Out.refl _ _)
    have hOF : Out (fun j => j = w.heap.size ∨ j = w.heap.size + 1) wc (five wc w.heap.size x.o).drew := out_drew ((five_out wc _ _).mono (fun j hj => Or.inl hj))
    have hOZ : Out (fun j => j = w.heap.size ∨ j = w.heap.size + 1) wc (three (five wc w.heap.size x.o) (w.heap.size + 1) x.slot x.age s).drew := out_drew (((five_out wc _ _).mono (fun j hj => Or.inl hj)).trans ((three_out _ _ _ _ _).mono (fun j hj => Or.inr hj)) (Went.refl _ _))
    have j1 : (three (five wc w.heap.size x.o) (w.heap.size + 1) x.slot x.age s).heap[w.heap.size]? = some (.cells #[.int .i64 x.o.id, .int .i64 x.o.side, .int .i64 x.o.kind, .int .i64 x.o.price, .int .i64 x.o.qty] 40 (0, 0)) := blk_out (five_is (w := wc) x.o HG1.out) (three_out _ _ _ _ _) (fun e => Nat.ne_of_lt (Nat.lt_succ_self _) e)
    have j2 : (three (five wc w.heap.size x.o) (w.heap.size + 1) x.slot x.age s).heap[w.heap.size + 1]? = some (.cells #[.int .i64 x.slot, .int .i64 x.age, .int .i64 s] 80 (0, 0)) := three_is (w := five wc w.heap.size x.o) _ _ _ (blk_out (w := wc) HG2.out (five_out _ _ _) (fun e => Nat.ne_of_gt (Nat.lt_succ_self _) e))
    have k1 : (three (five wc w.heap.size x.o) (w.heap.size + 1) x.slot x.age s).drew.heap[w.heap.size]? = some (.cells #[.int .i64 x.o.id, .int .i64 x.o.side, .int .i64 x.o.kind, .int .i64 x.o.price, .int .i64 x.o.qty] 40 (0, 0)) := by rw [drew_heap]; exact j1
    have k2 : (three (five wc w.heap.size x.o) (w.heap.size + 1) x.slot x.age s).drew.heap[w.heap.size + 1]? = some (.cells #[.int .i64 x.slot, .int .i64 x.age, .int .i64 s] 80 (0, 0)) := by rw [drew_heap]; exact j2
    clear j1 j2
    have k3 : Below w.heap.size w (three (five wc w.heap.size x.o) (w.heap.size + 1) x.slot x.age s).drew := HBD.out.trans (hOZ.below (fun j hj => by rcases hj with hj | hj <;> omega) HBD.out.size)
    unfold three five at hOZ k1 k2 k3
    unfold five at hOF
    have HOF : Hid _ := hOF
    have HOZ : Hid _ := hOZ
    have HK1 : Hid _ := k1
    have HK2 : Hid _ := k2
    have HK3 : Hid _ := k3
    clear hOF hOZ k1 k2 k3
    clear x0 x1 x2 x3 x4 p0 p1 p2
    refine wp_region_late (fun w' => w'.cell? ⟨xb, 0, none⟩ = some (.int .i64 x.o.id) ∧ w'.cell? ⟨xb, 1, none⟩ = some (.int .i64 x.o.side) ∧ w'.cell? ⟨xb, 2, none⟩ = some (.int .i64 x.o.kind) ∧ w'.cell? ⟨xb, 3, none⟩ = some (.int .i64 x.o.price) ∧ w'.cell? ⟨xb, 4, none⟩ = some (.int .i64 x.o.qty) ∧ w'.cell? ⟨w.heap.size + 1 + 1, 0, none⟩ = some (.int .i64 x.slot) ∧ w'.cell? ⟨w.heap.size + 1 + 1, 1, none⟩ = some (.int .i64 x.age) ∧ w'.cell? ⟨w.heap.size + 1 + 1, 2, none⟩ = some (.int .i64 s) ∧ Out (fun j => j = w.heap.size ∨ j = w.heap.size + 1) wc w') (fun _ => false) (by kernel_rfl) (HS5.out _ (out_drew (Out.refl _ _))) (fun hHeld => ?_)
    refine wpAnyL_take (i := 0) (v := ?_) rfl (by kernel_rfl) (by kernel_rfl) (by kernel_rfl) (by kernel_rfl) (by kernel_rfl) (fun _ _ _ h => h) (by rfl) ?_ (by assumption) ?_
    rotate_left
    · intro w hSw
      try dsimp only at hSw
      go_simp
      try rfl
    refine wpAnyL_take (i := 1) (v := ?_) rfl (by kernel_rfl) (by kernel_rfl) (by kernel_rfl) (by kernel_rfl) (by kernel_rfl) (fun _ _ _ h => h) (by rfl) ?_ (by assumption) ?_
    rotate_left
    · intro w hSw
      try dsimp only at hSw
      go_simp
      try rfl
    refine wpAnyL_take (i := 2) (v := ?_) rfl (by kernel_rfl) (by kernel_rfl) (by kernel_rfl) (by kernel_rfl) (by kernel_rfl) (fun _ _ _ h => h) (by rfl) ?_ (by assumption) ?_
    rotate_left
    · intro w hSw
      try dsimp only at hSw
      go_simp
      try rfl
    refine wpAnyL_ready (rs := [3]) (by kernel_rfl) (by simp) ?_
    refine AllReadyL.cons rfl (fun K hK => ?_) AllReadyL.nil
    go_simp
    refine hK.out _ _ (fun _ => HS5.out _ HOF.out) (fun hHeld => ?_)
    replace hHeld := hHeld rfl
    clear hK K
    refine wpAnyL_ready (rs := [4]) (by kernel_rfl) (by simp) ?_
    refine AllReadyL.cons rfl (fun K hK => ?_) AllReadyL.nil
    go_simp
    have hO5 := HOZ.out
    have k1 := HK1.out
    have k2 := HK2.out
    have k3 := HK3.out
    clear HOZ HK1 HK2 HK3
    generalize ((((((((wc.setCell ⟨w.heap.size, 0, none⟩ (.int .i64 x.o.id)).setCell ⟨w.heap.size, 1, none⟩ (.int .i64 x.o.side)).setCell ⟨w.heap.size, 2, none⟩ (.int .i64 x.o.kind)).setCell ⟨w.heap.size, 3, none⟩ (.int .i64 x.o.price)).setCell ⟨w.heap.size, 4, none⟩ (.int .i64 x.o.qty)).setCell ⟨w.heap.size + 1, 0, none⟩ (.int .i64 x.slot)).setCell ⟨w.heap.size + 1, 1, none⟩ (.int .i64 x.age)).setCell ⟨w.heap.size + 1, 2, none⟩ (.int .i64 s)).drew = wz at hO5 k1 k2 k3 ⊢
    refine hK.out _ _ (fun _ => HS5.out _ hO5) (fun hHeld => ?_)
    replace hHeld := hHeld rfl
    have e0 := blk_cell (j := 0) k1 rfl
    have e1 := blk_cell (j := 1) k1 rfl
    have e2 := blk_cell (j := 2) k1 rfl
    have e3 := blk_cell (j := 3) k1 rfl
    have e4 := blk_cell (j := 4) k1 rfl
    have e5 := blk_cell (j := 0) k2 rfl
    have e6 := blk_cell (j := 1) k2 rfl
    have e7 := blk_cell (j := 2) k2 rfl
    clear hK K a0 a1 a2 a3 a4 b0 b1 b2 f0 f1 f2 f3 f4 f5 f6 f7 hs1 hO5 k1 k2
    refine wpAnyL_ready (rs := [5]) (by kernel_rfl) (by simp) ?_
    refine AllReadyL.cons rfl (fun K hK => ?_) AllReadyL.nil
    go_simp
    refine hK.out _ _ (fun _ => hHeld) (fun _ => ?_)
    refine wpAnyL_done (by kernel_rfl) ?_ _
    go_wp2_with fail
    refine bodyPost_ret (by simp [results, Try.results63, go_sem, e0, e1, e2, e3, e4, e5, e6, e7]; try rfl) rfl ?_
    exact ⟨rfl, k3⟩
end Go.Proofs.Ytcoijhofliilmab

/-
  What the program's Cancel does, over this seat's translation. Conditions stand in each theorem.
-/
namespace Go.Proofs.Ytcoijhofliilmab
open Go.RowKit

attribute [local go_sem ↓] Go.wp_at_zero Go.wp_at_succ

set_option maxRecDepth 100000 in
set_option maxHeartbeats 2000000 in
theorem cancel_no (bb m : Nat) (b : BkS) (id : Int) (w : World) (h : Bk w bb m b) (hw : (Lit.int .i64 id).wf = true) (hno : ∀ s, s < 2 → ∀ x ∈ b.S s, x.o.id ≠ id) :
    Calls Try.prog 64 #[.pointer (some ⟨bb, 0, none⟩), .int .i64 id] w fun e W' => e = .returned (.tuple #[Ord.none_.agg, .iface 75 (.int .i64 7)]) ∧ Below w.heap.size w W' := by
  have H : Hid (Bk w bb m b) := h
  have HN : Hid (∀ s, s < 2 → ∀ x ∈ b.S s, x.o.id ≠ id) := hno
  clear h hno
  go_enter Try.func64, Try.ntmps64
  go_wp2_with fail
  refine (find_no bb m b id _ (H.out.below (bel1 _ _) (Nat.le_refl _)) hw HN.out).mono ?_
  rintro e w1 ⟨rfl, hb1⟩
  unfold Ord.agg Ord.none_
  have hr := blk_below (heap_alloc_new w _) hb1 (Nat.le_refl _)
  have HB1 : Hid (Below w.heap.size w w1) := bel_then (bel1 _ _) hb1
  clear hb1
  go_upto_region 3 with fail
  have hb2 := bel2 w1 (.cells #[.int .i64 0, .int .i64 0, .int .i64 0, .int .i64 0, .int .i64 0] 40) (.cells #[.int .i64 0, .int .i64 0, .int .i64 0] 80)
  have hr := blk_below hr hb2 (Nat.le_refl _)
  generalize (w1.alloc (.cells #[.int .i64 0, .int .i64 0, .int .i64 0, .int .i64 0, .int .i64 0] 40)).alloc (.cells #[.int .i64 0, .int .i64 0, .int .i64 0] 80) = w2 at hb2 hr ⊢
  have HB2 : Hid (Below w.heap.size w w2) := bel_then HB1.out hb2
  have a0 := blk_cell (j := 0) hr rfl
  have a1 := blk_cell (j := 1) hr rfl
  have a2 := blk_cell (j := 2) hr rfl
  have a3 := blk_cell (j := 3) hr rfl
  have a4 := blk_cell (j := 4) hr rfl
  have f0 := blk_free (j := 0) hr
  have f1 := blk_free (j := 1) hr
  have f2 := blk_free (j := 2) hr
  have f3 := blk_free (j := 3) hr
  have f4 := blk_free (j := 4) hr
  clear hb2 hr
  go_wp2
  refine bodyPost_ret (by simp [results, Try.results64, go_sem, a0, a1, a2, a3, a4]; try rfl) rfl ?_
  refine ⟨rfl, ?_⟩
  have s0 : Below w.heap.size w2 w2 := Below.refl _ _
  exact HB2.out.trans (((((s0.setCell (p := ⟨w.heap.size, 0, none⟩) (by simp) _).setCell (p := ⟨w.heap.size, 1, none⟩) (by simp) _).setCell (p := ⟨w.heap.size, 2, none⟩) (by simp) _).setCell (p := ⟨w.heap.size, 3, none⟩) (by simp) _).setCell (p := ⟨w.heap.size, 4, none⟩) (by simp) _)

theorem row_form {w : World} {v : Value} {n : Nat} {l : List Value} (h : w.ownsRow 0 78 2 v n l) (hn : 0 < n) : ∃ g cap, v = .slice (some ⟨g, 0, none⟩) n cap := by
  rcases h.2 with ⟨rfl, rfl⟩ | ⟨g, cap, cur, rfl, _⟩
  · exact absurd hn (Nat.lt_irrefl 0)
  · exact ⟨g, cap, rfl⟩
theorem only_one {m s i : Nat} {rs : List Sot} {fr : List Nat} {S : Nat → List Ly} {x : Ly} (h : Pb m rs fr S) (hs : s < 2) (hi : i < (S s).length) (hx : lyAt (S s) i = x) : isH (lyAt (S s) i) x.slot x.age = true ∧ ∀ j, j < (S s).length → j ≠ i → isH (lyAt (S s) j) x.slot x.age = false := by
  have hn : ((S s).map Ly.slot).Nodup := by
    have := h.nd
    rw [List.map_append] at this
    match s, hs with
    | 0, _ => exact (List.nodup_append.1 this).1
    | 1, _ => exact (List.nodup_append.1 this).2.1
  refine ⟨by rw [hx]; simp [isH], fun j hj hji => ?_⟩
  have hne : (lyAt (S s) j).slot ≠ x.slot := fun e => hji (by
    rw [← hx, lyAt_eq hi, lyAt_eq hj] at e
    have h1 : j < ((S s).map Ly.slot).length := by simpa using hj
    have h2 : i < ((S s).map Ly.slot).length := by simpa using hi
    exact (List.getElem_inj (h₀ := h1) (h₁ := h2) hn).1 (by simpa using e))
  simp [isH, hne]
theorem lyAt_of_mem {x : Ly} {l : List Ly} (h : x ∈ l) : ∃ i, i < l.length ∧ lyAt l i = x := by
  obtain ⟨i, hi, e⟩ := List.mem_iff_getElem.1 h
  exact ⟨i, hi, by rw [lyAt_eq hi]; exact e⟩
theorem gone_mem {m s i : Nat} {rs : List Sot} {fr : List Nat} {S : Nat → List Ly} {x : Ly} (h : Pb m rs fr S) (hs : s < 2) (hi : i < (S s).length) (hx : lyAt (S s) i = x) : ∀ t, t < 2 → ∀ y, y ∈ upS S s (outAt i (S s)) t ↔ (y ∈ S t ∧ y.o.id ≠ x.o.id) := by
  have hp := outAt_perm hi
  rw [hx] at hp
  have hall : (S 0 ++ S 1).Perm (x :: (upS S s (outAt i (S s)) 0 ++ upS S s (outAt i (S s)) 1)) := (pb_all S hs).trans ((hp.append_right _).trans ((pb_up S _ hs).symm.cons _))
  have hid := (hall.map fun x => x.o.id).nodup_iff.1 h.ids
  simp only [List.map_cons, List.nodup_cons, List.mem_map, not_exists, not_and] at hid
  intro t ht y
  have hin : y ∈ upS S s (outAt i (S s)) t → y.o.id ≠ x.o.id := fun hy e => hid.1 y (by
    match t, ht with
    | 0, _ => exact List.mem_append_left _ hy
    | 1, _ => exact List.mem_append_right _ hy) e
  by_cases e : t = s
  · subst e
    rw [upS_same] at hin ⊢
    refine ⟨fun hy => ⟨hp.mem_iff.2 (List.mem_cons_of_mem _ hy), hin hy⟩, fun ⟨hy, hne⟩ => ?_⟩
    rcases List.mem_cons.1 (hp.mem_iff.1 hy) with e | e
    · exact absurd (by rw [e]) hne
    · exact e
  · rw [upS_other _ e] at hin ⊢
    exact ⟨fun hy => ⟨hy, hin hy⟩, fun hy => hy.1⟩

def bkGone (b : BkS) (s i : Nat) (x : Ly) (vf' v' : Value) : BkS :=
  ⟨b.ab, b.mb, b.n, b.vs, vf', rowV b.v0 v' s 0, rowV b.v1 v' s 1, b.rs.set x.slot (none, x.age + 1), b.fr ++ [x.slot], upS b.S s (outAt i (b.S s))⟩
/-- the order's slot is free: all is in order again -/
theorem can_fin {w w3 w7 w8 w9 : World} {bb m s i g cap : Nat} {b : BkS} {x : Ly} {vf' : Value} (h : Bk w bb m b) (hm : m + 1 ≤ 900) (hs : s < 2) (hx : x ∈ b.S s) (hi : i < (b.S s).length) (hix : lyAt (b.S s) i = x)
    (hO : Out (b.foot bb) w w3) (hz : w.heap.size < w3.heap.size) (hvo : (vAt b.v0 b.v1 s).ownBlock = some g) (hT : Out (fun j => j = bb ∨ (vAt b.v0 b.v1 s).ownBlock = some j) w3 w7)
    (hG : BookG w7 bb b.ab b.mb b.n b.vs b.vf (rowV b.v0 (.slice (some ⟨g, 0, none⟩) (outAt i (b.S s)).length cap) s 0) (rowV b.v1 (.slice (some ⟨g, 0, none⟩) (outAt i (b.S s)).length cap) s 1) b.rs b.fr (upS b.S s (outAt i (b.S s))) (upS b.S s (outAt i (b.S s))))
    (ha : ArOr w8 b.ab 100 b.vs vf' (b.rs.set x.slot (none, x.age + 1)) (b.fr ++ [x.slot])) (ho8 : Out (aoB b.ab b.vs b.vf) w7 w8) (hw8 : Went w7 (aoB b.ab b.vs b.vf) (aoB b.ab b.vs vf')) (h9 : Out (fun j => j = w.heap.size) w8 w9) :
    Goes w w9 bb (m + 1) b (bkGone b s i x vf' (.slice (some ⟨g, 0, none⟩) (outAt i (b.S s)).length cap)) := by
  have hp := outAt_perm hi
  rw [hix] at hp
  have hz7 : w.heap.size < w7.heap.size := Nat.lt_of_lt_of_le hz hT.size
  have hw := rowV_went (w := w) (v0 := b.v0) (v1 := b.v1) (v' := .slice (some ⟨g, 0, none⟩) (outAt i (b.S s)).length cap) hs (fun j hj => by
      have e : g = j := by simpa [Value.ownBlock] using hj
      subst e
      exact Or.inl hvo)
  have hold : ∀ j, (rowV b.v0 (.slice (some ⟨g, 0, none⟩) (outAt i (b.S s)).length cap) s 0).ownBlock = some j ∨ (rowV b.v1 (.slice (some ⟨g, 0, none⟩) (outAt i (b.S s)).length cap) s 1).ownBlock = some j → j < w3.heap.size ∧ (b.v0.ownBlock = some j ∨ b.v1.ownBlock = some j) := fun j hj => by
    have h0 : b.v0.ownBlock = some j ∨ b.v1.ownBlock = some j := by
      match s, hs with
      | 0, _ =>
        rcases hj with hj | hj
        · have e : g = j := by simpa [rowV, Value.ownBlock] using hj
          exact Or.inl (e ▸ hvo)
        · exact Or.inr hj
      | 1, _ =>
        rcases hj with hj | hj
        · exact Or.inl hj
        · have e : g = j := by simpa [rowV, Value.ownBlock] using hj
          exact Or.inr (e ▸ hvo)
    exact ⟨Nat.lt_trans (h.lt (Or.inr (Or.inr (Or.inr h0)))) hz, h0⟩
  have hW : Went w (b.foot bb) ((bkGone b s i x vf' (.slice (some ⟨g, 0, none⟩) (outAt i (b.S s)).length cap)).foot bb) := by
    rintro j (hj | hj | hj | hj)
    · exact Or.inl (Or.inl hj)
    · exact (hw8 j hj).imp (fun h => Or.inr (Or.inl h)) (fun h => Nat.le_of_lt (Nat.lt_of_lt_of_le hz7 h))
    · exact Or.inl (Or.inr (Or.inr (Or.inl hj)))
    · exact Or.inl (Or.inr (Or.inr (Or.inr (hold j hj).2)))
  refine ⟨⟨((hG.newAr ho8 ha).out h9 (fun k hk e => ?_)).done, h.ok.gone hs hx hp, Nat.le_succ_of_le h.small, hm⟩, ?_, hW⟩
  · have e' : k = w.heap.size := e
    have nl : ∀ j, b.foot bb j → j ≠ w.heap.size := fun j hj e => by have := h.lt hj; omega
    rcases hk with hk | hk | hk | hk
    · exact nl k (Or.inl hk) e'
    · rcases hw8 k hk with h1 | h1
      · exact nl k (Or.inr (Or.inl h1)) e'
      · omega
    · exact nl k (Or.inr (Or.inr (Or.inl hk))) e'
    · exact nl k (Or.inr (Or.inr (Or.inr (hold k hk).2))) e'
  · have o1 := hO.trans (hT.mono (S' := b.foot bb) (fun j hj => by
      rcases hj with hj | hj
      · exact Or.inl hj
      · exact Or.inr (Or.inr (Or.inr (vAt_own hs hj))))) (Went.refl _ _)
    have o2 := o1.trans (ho8.mono (S' := b.foot bb) (fun j hj => Or.inr (Or.inl hj))) (Went.refl _ _)
    exact o2.trans h9 (fun j hj => Or.inr (by rw [show j = w.heap.size from hj]; exact Nat.le_refl _))

set_option maxRecDepth 100000 in
set_option maxHeartbeats 4000000 in
theorem cancel_yes (bb m s : Nat) (b : BkS) (x : Ly) (w : World) (h : Bk w bb m b) (hm : m + 1 ≤ 900) (hs : s < 2) (hx : x ∈ b.S s) :
    Calls Try.prog 64 #[.pointer (some ⟨bb, 0, none⟩), .int .i64 x.o.id] w fun e W' => e = .returned (.tuple #[x.o.agg, .nilIface]) ∧ ∃ b' : BkS, (∃ i, i < (b.S s).length ∧ lyAt (b.S s) i = x ∧ b'.S = upS b.S s (outAt i (b.S s))) ∧ Goes w W' bb (m + 1) b b' := by
  have H : Hid (Bk w bb m b) := h
  clear h
  unfold Ord.agg
  go_enter Try.func64, Try.ntmps64
  go_wp2_with fail
  refine (find_yes bb m s b x _ (H.out.below (bel1 _ _) (Nat.le_refl _)) hs hx).mono ?_
  rintro e w1 ⟨rfl, hb1⟩
  unfold Ord.agg plV
  have hr := blk_below (heap_alloc_new w _) hb1 (Nat.le_refl _)
  have HB1 : Hid (Below w.heap.size w w1) := bel_then (bel1 _ _) hb1
  clear hb1
  go_upto_region 4 with fail
  have hb2 := bel2 w1 (.cells #[.int .i64 x.o.id, .int .i64 x.o.side, .int .i64 x.o.kind, .int .i64 x.o.price, .int .i64 x.o.qty] 40) (.cells #[.int .i64 x.slot, .int .i64 x.age, .int .i64 s] 80)
  have hr := blk_below hr hb2 (Nat.le_refl _)
  have hp := two_new w1 (.cells #[.int .i64 x.o.id, .int .i64 x.o.side, .int .i64 x.o.kind, .int .i64 x.o.price, .int .i64 x.o.qty] 40) (.cells #[.int .i64 x.slot, .int .i64 x.age, .int .i64 s] 80)
  have hpl : w.heap.size < w1.heap.size + 1 := Nat.lt_succ_of_le HB1.out.size
  generalize (w1.alloc (.cells #[.int .i64 x.o.id, .int .i64 x.o.side, .int .i64 x.o.kind, .int .i64 x.o.price, .int .i64 x.o.qty] 40)).alloc (.cells #[.int .i64 x.slot, .int .i64 x.age, .int .i64 s] 80) = w2 at hb2 hr hp ⊢
  generalize w1.heap.size + 1 = pb at hp hpl ⊢
  have HB2 : Hid (Below w.heap.size w w2) := bel_then HB1.out hb2
  clear hb2 HB1
  have HBK : Hid (Bk w2 bb m b) := H.out.below HB2.out (Nat.le_refl _)
  obtain ⟨i, hil, hix⟩ := lyAt_of_mem hx
  have m1 : w2.cell? ⟨bb, 1, none⟩ = some (.map (some b.mb)) := blk_cell (j := 1) HBK.out.at_.box rfl
  obtain ⟨w3, hrun, hm3, ho3⟩ := HBK.out.at_.map.del (H.out.ok.ok s hs x hx).2.1 (gone_mem H.out.ok hs hil hix) 0
  have hG3 := HBK.out.at_.mid.newMap ho3 hm3
  have hr := blk_out hr ho3 (HBK.out.at_.map.ne hr)
  have hp := blk_out hp ho3 (HBK.out.at_.map.ne hp)
  have HO3 : Hid (Out (b.foot bb) w w3) := (Out.of_below HB2.out (Nat.le_refl _)).trans (ho3.mono (S' := b.foot bb) (fun j hj => Or.inr (Or.inr (Or.inl hj)))) (Went.refl _ _)
  go_wp2_with fail
  clear hrun m1 hm3 ho3
  obtain ⟨hrow, _, _⟩ := hG3.rowIs hs
  obtain ⟨g, cap, hv⟩ := row_form hrow (by omega)
  have HG3 : Hid (BookG w3 bb b.ab b.mb b.n b.vs b.vf b.v0 b.v1 b.rs b.fr (upS b.S s (outAt i (b.S s))) b.S) := hG3
  have HR3 : Hid (w3.heap[w.heap.size]? = some (.cells #[.int .i64 0, .int .i64 0, .int .i64 0, .int .i64 0, .int .i64 0] 40 (0, 0))) := hr
  have HP3 : Hid (w3.heap[pb]? = some (.cells #[.int .i64 x.slot, .int .i64 x.age, .int .i64 s] 80 (0, 0))) := hp
  have HROW : Hid (w3.ownsRow 0 78 2 (.slice (some ⟨g, 0, none⟩) (b.S s).length cap) (b.S s).length (hV (b.S s))) := by rw [hv] at hrow; exact hrow
  have HV : Hid (vAt b.v0 b.v1 s = .slice (some ⟨g, 0, none⟩) (b.S s).length cap) := hv
  have hgw : g < w.heap.size := by
    have h1 : (vAt b.v0 b.v1 s).ownBlock = some g := by rw [hv]; rfl
    exact ((H.out.at_.mid.rowIs hs).1.lt g h1).2
  have ng : ∀ {j : Nat} {vs : Array Value} {t : TypeId}, w3.heap[j]? = some (.cells vs t (0, 0)) → t ≠ 78 → ¬ (j = g) := fun {j vs t} hj ht e => owns_type HROW.out hj ht (by rw [e]; rfl)
  have HS5 : Hid (∀ w', Out (fun j => j = g) w3 w' → (w'.cell? ⟨pb, 1, none⟩ = some (.int .i64 x.age) ∧ w'.cell? ⟨pb, 2, none⟩ = some (.int .i64 s) ∧ w'.cell? ⟨bb, 2 + s, none⟩ = some (.slice (some ⟨g, 0, none⟩) (b.S s).length cap) ∧ Out (fun j => j = g) w3 w')) := fun w' ho => by
    have g1 := blk_out HP3.out ho (ng HP3.out (by decide))
    have g2 := blk_out HG3.out.box ho (ng HG3.out.box (by decide))
    exact ⟨blk_cell (j := 1) g1 rfl, blk_cell (j := 2) g1 rfl, by rw [← HV.out]; exact (box_cell g2 hs).1, ho⟩
  clear hG3 hr hp hrow hv
  have hln : (b.S s).length ≤ 1000 := by
    have h1 := (pb_len b.S [] hs).2
    have h2 := H.out.ok.most
    omega
  have HON : Hid (isH (lyAt (b.S s) i) x.slot x.age = true ∧ ∀ j, j < (b.S s).length → j ≠ i → isH (lyAt (b.S s) j) x.slot x.age = false) := only_one H.out.ok hs hil hix
  have q1 : (0 : Int) ≤ (s : Int) := by omega
  have q2 : (s : Int) < 2 := by omega
  refine wp_region_late (fun w' => w'.cell? ⟨pb, 1, none⟩ = some (.int .i64 x.age) ∧ w'.cell? ⟨pb, 2, none⟩ = some (.int .i64 s) ∧ w'.cell? ⟨bb, 2 + s, none⟩ = some (.slice (some ⟨g, 0, none⟩) (b.S s).length cap) ∧ Out (fun j => j = g) w3 w') (fun i => i == 15) (by kernel_rfl) (HS5.out _ (out_drew (Out.refl _ _))) (fun hHeld => ?_)
  refine wpAnyL_take (i := 0) (v := ?_) rfl (by kernel_rfl) (by kernel_rfl) (by kernel_rfl) (by kernel_rfl) (by kernel_rfl) (fun _ _ _ h => h) (by rfl) ?_ (by assumption) ?_
  rotate_left
  · intro w hSw
    try dsimp only at hSw
    go_simp
    try rfl
  refine wpAnyL_take (i := 1) (v := ?_) rfl (by kernel_rfl) (by kernel_rfl) (by kernel_rfl) (by kernel_rfl) (by kernel_rfl) (fun _ _ _ h => h) (by rfl) ?_ (by assumption) ?_
  rotate_left
  · intro w hSw
    try dsimp only at hSw
    go_simp
    try rfl
  refine wpAnyL_take (i := 2) (v := ?_) rfl (by kernel_rfl) (by kernel_rfl) (by kernel_rfl) (by kernel_rfl) (by kernel_rfl) (fun _ _ _ h => h) (by rfl) ?_ (by assumption) ?_
  rotate_left
  · intro w hSw
    try dsimp only at hSw
    go_simp
    try rfl
  refine wpAnyL_take (i := 3) (v := ?_) rfl (by kernel_rfl) (by kernel_rfl) (by kernel_rfl) (by kernel_rfl) (by kernel_rfl) (fun _ _ _ h => h) (by rfl) ?_ (by assumption) ?_
  rotate_left
  · intro w hSw
    try dsimp only at hSw
    go_simp
    try rfl
  refine wpAnyL_take (i := 4) (v := ?_) rfl (by kernel_rfl) (by kernel_rfl) (by kernel_rfl) (by kernel_rfl) (by kernel_rfl) (fun _ _ _ h => h) (by rfl) ?_ (by assumption) ?_
  rotate_left
  · intro w hSw
    try dsimp only at hSw
    go_simp
    try rfl
  refine wpAnyL_take (i := 5) (v := ?_) rfl (by kernel_rfl) (by kernel_rfl) (by kernel_rfl) (by kernel_rfl) (by kernel_rfl) (fun _ _ _ h => h) (by rfl) ?_ (by assumption) ?_
  rotate_left
  · intro w hSw
    try dsimp only at hSw
    go_simp
    try rfl
  refine wpAnyL_take (i := 6) (v := ?_) rfl (by kernel_rfl) (by kernel_rfl) (by kernel_rfl) (by kernel_rfl) (by kernel_rfl) (fun _ _ _ h => h) (by rfl) ?_ (by assumption) ?_
  rotate_left
  · intro w hSw
    try dsimp only at hSw
    go_simp
    try rfl
  refine wpAnyL_take (i := 7) (v := ?_) rfl (by kernel_rfl) (by kernel_rfl) (by kernel_rfl) (by kernel_rfl) (by kernel_rfl) (fun _ _ _ h => h) (by rfl) ?_ (by assumption) ?_
  rotate_left
  · intro w hSw
    try dsimp only at hSw
    go_simp
    try rfl
  refine wpAnyL_take (i := 8) (v := ?_) rfl (by kernel_rfl) (by kernel_rfl) (by kernel_rfl) (by kernel_rfl) (by kernel_rfl) (fun _ _ _ h => h) (by rfl) ?_ (by assumption) ?_
  rotate_left
  · intro w hSw
    try dsimp only at hSw
    go_simp
    try rfl
  refine wpAnyL_take (i := 9) (v := ?_) rfl (by kernel_rfl) (by kernel_rfl) (by kernel_rfl) (by kernel_rfl) (by kernel_rfl) (fun _ _ _ h => h) (by rfl) ?_ (by assumption) ?_
  rotate_left
  · intro w hSw
    try dsimp only at hSw
    go_simp
    try rfl
  refine wpAnyL_take (i := 10) (v := ?_) rfl (by kernel_rfl) (by kernel_rfl) (by kernel_rfl) (by kernel_rfl) (by kernel_rfl) (fun _ _ _ h => h) (by rfl) ?_ (by assumption) ?_
  rotate_left
  · intro w hSw
    try dsimp only at hSw
    go_simp
    try rfl
  refine wpAnyL_take (i := 12) (v := ?_) rfl (by kernel_rfl) (by kernel_rfl) (by kernel_rfl) (by kernel_rfl) (by kernel_rfl) (fun _ _ _ h => h) (by rfl) ?_ (by assumption) ?_
  rotate_left
  · intro w hSw
    try dsimp only at hSw
    go_simp
    try rfl
  refine wpAnyL_take (i := 13) (v := ?_) rfl (by kernel_rfl) (by kernel_rfl) (by kernel_rfl) (by kernel_rfl) (by kernel_rfl) (fun _ _ _ h => h) (by rfl) ?_ (by assumption) ?_
  rotate_left
  · intro w hSw
    try dsimp only at hSw
    go_simp
    try rfl
  refine wpAnyL_ready (rs := [11]) (by kernel_rfl) (by simp) ?_
  refine AllReadyL.cons rfl (fun K hK => ?_) AllReadyL.nil
  go_simp
  refine (deleteF pb x.slot i g cap x.age s (b.S s) _ (owns_below HROW.out (Below.refl _ _).drew (Nat.le_refl _)) hln hil HON.out.1 HON.out.2 HP3.out).mono ?_
  rintro e w6 ⟨rfl, hr6, ho6⟩
  dsimp only
  have ho6 : Out (fun j => j = g) w3 w6 := out_then (out_drew (Out.refl _ _)) ho6
  have b6 := box_cell (blk_out HG3.out.box ho6 (ng HG3.out.box (by decide))) hs
  have e6 := b6.1
  have f6 := b6.2
  refine hK.out _ _ (fun _ => HS5.out _ ho6) (fun hHeld => ?_)
  replace hHeld := hHeld rfl
  clear hK K b6
  refine wpAnyL_ready (rs := [14]) (by kernel_rfl) (by simp) ?_
  refine AllReadyL.cons rfl (fun K hK => ?_) AllReadyL.nil
  go_simp
  refine hK.out _ _ (fun _ => HS5.out _ ho6) (fun hHeld => ?_)
  replace hHeld := hHeld rfl
  clear hK K
  refine wpAnyL_ready (rs := [15]) (by kernel_rfl) (by simp) ?_
  refine AllReadyL.cons rfl (fun K hK => ?_) AllReadyL.nil
  go_simp
  refine hK.out _ _ (fun h => by cases h) (fun _ => ?_)
  refine wpAnyL_done (by kernel_rfl) ?_ _
  go_wp2_with fail
  have hvo : (vAt b.v0 b.v1 s).ownBlock = some g := by rw [HV.out]; rfl
  obtain ⟨hG, hT⟩ := HG3.out.newRow hs hr6 (ho6.mono (fun j hj => by rw [show j = g from hj]; exact hvo)) (Or.inl hvo)
  generalize w6.setCell ⟨bb, 2 + s, none⟩ (.slice (some ⟨g, 0, none⟩) (outAt i (b.S s)).length cap) = w7 at hG hT ⊢
  have hz : w.heap.size < w3.heap.size := lt_of_block HR3.out
  have n7 : ∀ {j : Nat} {vs : Array Value} {t : TypeId}, w3.heap[j]? = some (.cells vs t (0, 0)) → t ≠ 73 → t ≠ 78 → ¬ (j = bb ∨ (vAt b.v0 b.v1 s).ownBlock = some j) := fun {j vs t} hj ht ht2 e => by
    rcases e with e | e
    · exact blk_ne hj HG3.out.box ht e
    · rw [hvo] at e
      exact ng hj ht2 (by injection e with e; exact e.symm)
  have hr7 := blk_out HR3.out hT (n7 HR3.out (by decide) (by decide))
  have hp7 := blk_out HP3.out hT (n7 HP3.out (by decide) (by decide))
  have HG7 : Hid (BookG w7 bb b.ab b.mb b.n b.vs b.vf (rowV b.v0 (.slice (some ⟨g, 0, none⟩) (outAt i (b.S s)).length cap) s 0) (rowV b.v1 (.slice (some ⟨g, 0, none⟩) (outAt i (b.S s)).length cap) s 1) b.rs b.fr (upS b.S s (outAt i (b.S s))) (upS b.S s (outAt i (b.S s)))) := hG
  have HT : Hid (Out (fun j => j = bb ∨ (vAt b.v0 b.v1 s).ownBlock = some j) w3 w7) := hT
  have HVO : Hid ((vAt b.v0 b.v1 s).ownBlock = some g) := hvo
  have HR7 : Hid (w7.heap[w.heap.size]? = some (.cells #[.int .i64 0, .int .i64 0, .int .i64 0, .int .i64 0, .int .i64 0] 40 (0, 0))) := hr7
  have HP7 : Hid (w7.heap[pb]? = some (.cells #[.int .i64 x.slot, .int .i64 x.age, .int .i64 s] 80 (0, 0))) := hp7
  have na : ∀ j, aoB b.ab b.vs b.vf j → j < w.heap.size := fun j hj => H.out.lt (Or.inr (Or.inl hj))
  have HS6 : Hid (∀ w', Out (fun j => aoB b.ab b.vs b.vf j ∨ j = w.heap.size) w7 w' → (w'.cell? ⟨bb, 0, none⟩ = some (.pointer (some ⟨b.ab, 0, none⟩)) ∧ w'.cell? ⟨pb, 0, none⟩ = some (.int .i64 x.slot) ∧ w'.cell? ⟨pb, 1, none⟩ = some (.int .i64 x.age) ∧ Out (fun j => aoB b.ab b.vs b.vf j ∨ j = w.heap.size) w7 w')) := fun w' ho => by
    have lb : bb < w.heap.size := H.out.lt (Or.inl rfl)
    have g1 := blk_out HG7.out.box ho (fun e => by
      rcases e with e | e
      · exact H.out.at_.notBox e
      · omega)
    have g2 := blk_out HP7.out ho (fun e => by
      rcases e with e | e
      · have := na _ e; omega
      · omega)
    exact ⟨blk_cell (j := 0) g1 rfl, blk_cell (j := 0) g2 rfl, blk_cell (j := 1) g2 rfl, ho⟩
  have HAT : Hid (soAt b.rs x.slot = (some x.o, x.age)) := H.out.ok.there s hs x hx
  have hcl : b.rs.length ≤ 1000 := by have := H.out.ok.so.small; have := H.out.steps; omega
  have hfl : b.fr.length ≤ b.rs.length := by have := H.out.ok.so.cnt; omega
  have HAG : Hid (0 ≤ x.age ∧ x.age ≤ 1000) := by
    have h1 := H.out.ok.so.ages x.slot
    rw [HAT.out] at h1
    have h2 := H.out.steps
    have h3 : 0 ≤ x.age ∧ x.age ≤ (m : Int) := h1
    show _ ∧ _
    omega
  have hs0 := HS6.out w7 (Out.refl _ _)
  clear hr7 hp7 hG hT hvo hr6 ho6 hHeld e6 f6 q1 q2
  go_region_held3 (fun w' => w'.cell? ⟨bb, 0, none⟩ = some (.pointer (some ⟨b.ab, 0, none⟩)) ∧ w'.cell? ⟨pb, 0, none⟩ = some (.int .i64 x.slot) ∧ w'.cell? ⟨pb, 1, none⟩ = some (.int .i64 x.age) ∧ Out (fun j => aoB b.ab b.vs b.vf j ∨ j = w.heap.size) w7 w')
    ((refine HS6.out _ ?_; (repeat' first | assumption | exact out_drew (Out.refl _ _) | refine out_setIn ?_ (Or.inr rfl))))
    (first | (go_at_call 73; refine (oaTake b.ab 100 b.vs b.vf b.rs b.fr x.slot x.o x.age _ (HG7.out.ar.below (Below.refl _ _).drew (Nat.le_refl _)) HAT.out hcl hfl HAG.out).mono ?_; rintro e w8 ⟨rfl, vf', ha8, ho8, hw8⟩; have ho8 : Out (aoB b.ab b.vs b.vf) w7 w8 := out_then (out_drew (Out.refl _ _)) ho8; have hO8 : Out (fun j => aoB b.ab b.vs b.vf j ∨ j = w.heap.size) w7 w8 := ho8.mono (fun _ h => Or.inl h); have hx8 := blk_out HR7.out ho8 (fun e => Nat.lt_irrefl _ (na _ e)); have y0 := blk_free (j := 0) hx8; have y1 := blk_free (j := 1) hx8; have y2 := blk_free (j := 2) hx8; have y3 := blk_free (j := 3) hx8; have y4 := blk_free (j := 4) hx8; have x0 := blk_cell (j := 0) hx8 rfl; have x1 := blk_cell (j := 1) hx8 rfl; have x2 := blk_cell (j := 2) hx8 rfl; have x3 := blk_cell (j := 3) hx8 rfl; have x4 := blk_cell (j := 4) hx8 rfl; unfold Ord.agg; clear hx8))
  go_wp2
  refine bodyPost_ret (by simp [results, Try.results64, go_sem, x0, x1, x2, x3, x4]; try rfl) rfl ?_
  refine ⟨rfl, _, ⟨i, hil, hix, rfl⟩, can_fin H.out hm hs hx hil hix HO3.out hz HVO.out HT.out HG7.out ha8 ho8 hw8 ?_⟩
  exact out_setIn (out_setIn (out_setIn (out_setIn (out_setIn (Out.refl _ _) rfl) rfl) rfl) rfl) rfl
end Go.Proofs.Ytcoijhofliilmab

/-
  What the program's Best answers, over this seat's translation. Conditions stand in each theorem.
-/
namespace Go.Proofs.Ytcoijhofliilmab
open Go.RowKit Go.Shelf

attribute [local go_sem] Oper.semAt_some

/-- what Best answers on a side that lies so -/
def bestV (l : List Ord) : Value := match l with
  | [] => .tuple #[Ord.none_.agg, .iface 75 (.int .i64 8)]
  | o :: _ => .tuple #[o.agg, .nilIface]

theorem lt_of_some {w : World} {k : Nat} {o : Obj} (h : w.heap[k]? = some o) : k < w.heap.size := (Array.getElem?_eq_some_iff.1 h).1
/-- Best's end: its results lie in cells, its loop's own block is put away -/
theorem best_end {w W : World} {D : Nat} {x : Ord} {e : Value} {tm : Array Value} (h2 : OrdAt W w.heap.size x) (h3 : W.heap[w.heap.size + 1]? = some (.cells #[e] 37 (0, 0))) (hK : W.heap[D]? = some (.deferred (some []))) (hBW : Below w.heap.size w W) (hD : w.heap.size + 2 ≤ D)
    (t4 : tm.getD 4 undef = .pointer (some ⟨w.heap.size, 0, none⟩) := by rfl) (t5 : tm.getD 5 undef = .pointer (some ⟨w.heap.size + 1, 0, none⟩) := by rfl) :
    bodyPostM Fence.wide 4 Try.prog Try.f43 (fun e' W' => e' = .returned (.tuple #[x.agg, e]) ∧ Below w.heap.size w W') Exit.ret { tmps := tm, defers := [{ target := Target.collected D, args := #[] }] } W := by
  have hb := belowK_b (n₀ := w.heap.size) (w := w) (Nat.le_refl _) W D _ (.deferred none) (by omega) hK rfl rfl
  have hb2 := belowK_b (n₀ := w.heap.size + 2) (w := (w.alloc (.deferred none)).alloc (.deferred none)) (by simp) W D _ (.deferred none) (by simp; omega) hK rfl rfl
  have q2 : OrdAt (W.putObj D (.deferred none)) w.heap.size x := (hb2.block w.heap.size (by omega)).trans h2
  have q3 : (W.putObj D (.deferred none)).heap[w.heap.size + 1]? = some (.cells #[e] 37 (0, 0)) := (hb2.block (w.heap.size + 1) (by omega)).trans h3
  have t4' : tm[4]?.getD undef = .pointer (some ⟨w.heap.size, 0, none⟩) := by simpa using t4
  have t5' : tm[5]?.getD undef = .pointer (some ⟨w.heap.size + 1, 0, none⟩) := by simpa using t5
  have a0 := blk_cell (j := 0) q2 rfl
  have a1 := blk_cell (j := 1) q2 rfl
  have a2 := blk_cell (j := 2) q2 rfl
  have a3 := blk_cell (j := 3) q2 rfl
  have a4 := blk_cell (j := 4) q2 rfl
  have b0 := blk_cell (j := 0) q3 rfl
  refine ⟨by simp, .inl ⟨_, _, rfl, run_takeDeferred hK, ?_⟩⟩
  refine ⟨.tuple #[x.agg, e], ?_, rfl, hBW.trans hb⟩
  unfold Ord.agg
  simp [results, Try.results43, go_sem, t4', t5', a0, a1, a2, a3, a4, b0]
  try rfl

set_option maxRecDepth 100000 in
set_option maxHeartbeats 2000000 in
theorem best_any (bb ab mb nn s : Nat) (vs vf v0 v1 : Value) (rs : List Sot) (fr : List Nat) (S : Nat → List Ly) (hs : s < 2) (hlen : (S s).length ≤ 1000)
    (hth : ∀ x ∈ S s, soAt rs x.slot = (some x.o, x.age)) (w : World) (hB : BookAt w bb ab mb nn vs vf v0 v1 rs fr S) (side : Int) (hsd : side = (s : Int) + 1) :
    Calls Try.prog 43 #[.pointer (some ⟨bb, 0, none⟩), .int .i64 side] w fun e W' => e = .returned (bestV ((S s).map Ly.o)) ∧ Below w.heap.size w W' := by
  have hss : (side == 1 || side == 2) = true := by
    subst hsd
    match s, hs with
    | 0, _ => rfl
    | 1, _ => rfl
  have HS : Hid ((side == 1 || side == 2) = true) := hss
  have hsub : IntKind.i64.wrap (side - 1) = (s : Int) := by rw [hsd, show (s : Int) + 1 - 1 = s by omega]; exact IntWalk.i64_in _ (by omega)
  clear hss hsd
  refine (callsIn_wide (n := 4)).1 ?_
  refine callsIn_of_wp_marks Try.func43 rfl trivial ?_ rfl
  simp only [Try.ntmps43, List.size_toArray, List.length_cons, List.length_nil, Nat.reduceAdd, Nat.reduceSub, Array.replicate_succ, Array.replicate_zero, List.push_toArray, List.append_toArray, List.nil_append, List.cons_append]
  gi_wp2_with fail
  refine ⟨trivial, (callsIn_wide.2 (isSide_any side _)).mono ?_⟩
  rintro e w' ⟨rfl, hw⟩
  replace hw := hw.symm
  subst hw
  rw [HS.out]
  gi_wp2_with fail
  refine ⟨trivial, (callsIn_wide.2 (lying_any bb _ _)).mono ?_⟩
  rintro e w' ⟨rfl, rfl⟩
  gi_wp2_with fail
  have hB1 := bel2 w (.cells #[.int .i64 0, .int .i64 0, .int .i64 0, .int .i64 0, .int .i64 0] 40) (.cells #[.nilIface] 37)
  have bO := two_old w (.cells #[.int .i64 0, .int .i64 0, .int .i64 0, .int .i64 0, .int .i64 0] 40) (.cells #[.nilIface] 37)
  have bN := two_new w (.cells #[.int .i64 0, .int .i64 0, .int .i64 0, .int .i64 0, .int .i64 0] 40) (.cells #[.nilIface] 37)
  obtain ⟨w2, hw2⟩ : ∃ w2, (w.alloc (.cells #[.int .i64 0, .int .i64 0, .int .i64 0, .int .i64 0, .int .i64 0] 40)).alloc (.cells #[.nilIface] 37) = w2 := ⟨_, rfl⟩
  have hz2 : w2.heap.size = w.heap.size + 1 + 1 := by rw [← hw2]; simp
  rw [hw2] at hB1 bO bN ⊢
  clear hw2
  have hB2 := bel2 w2 (.cells #[.pointer (some ⟨bb, 0, none⟩)] 34) (.cells #[.int .i64 s] 3)
  have bB := two_old w2 (.cells #[.pointer (some ⟨bb, 0, none⟩)] 34) (.cells #[.int .i64 s] 3)
  have bS := two_new w2 (.cells #[.pointer (some ⟨bb, 0, none⟩)] 34) (.cells #[.int .i64 s] 3)
  obtain ⟨W0, hW0⟩ : ∃ W0, (w2.alloc (.cells #[.pointer (some ⟨bb, 0, none⟩)] 34)).alloc (.cells #[.int .i64 s] 3) = W0 := ⟨_, rfl⟩
  have hsz : W0.heap.size = w.heap.size + 4 := by rw [← hW0]; simp; omega
  rw [hW0] at hB2 bB bS ⊢
  clear hW0
  have bO := blk_below bO hB2 (Nat.le_refl _)
  have bN := blk_below bN hB2 (Nat.le_refl _)
  have hB0 : Below w.heap.size w W0 := bel_then hB1 hB2
  rw [hz2] at bB bS
  have HK : ∀ k, pbB bb ab mb vs vf v0 v1 k → k < w.heap.size := fun k hk => hB.lt hk
  clear hB1 hB2
  refine wpIn_rangeFunc_ownH (F := Fence.wide) (n := 4) rfl (by decide) (gf := 59) (lb := #[.pointer (some ⟨w.heap.size + 1 + 1, 0, none⟩), .pointer (some ⟨w.heap.size + 1 + 1 + 1, 0, none⟩)]) rfl trivial (enters_of Try.func59 (by kernel_rfl) rfl)
    (lySeq 3 (by decide) (w.heap.size + 1 + 1) (w.heap.size + 1 + 1 + 1) w.heap.size bb ab mb nn s vs vf v0 v1 rs fr S hs hlen hth HK W0 (by omega) (hB.below hB0 (Nat.le_refl _)) bB bS) kpl_t (kpl_b (by omega)) (Below.refl _ _) (fun _ => rfl)
    (fun pre W => (pre = [] ∧ OrdAt W w.heap.size Ord.none_ ∧ W.heap[w.heap.size + 1]? = some (.cells #[.nilIface] 37 (0, 0))) ∧ Below w.heap.size w W)
    (fun c pre W => (c = .ret ∧ ∃ x, pre = [x] ∧ OrdAt W w.heap.size x ∧ W.heap[w.heap.size + 1]? = some (.cells #[.nilIface] 37 (0, 0))) ∧ Below w.heap.size w W)
    (OwnFrom.and (Own.from (fun s A B row hs hg hr => ⟨hs.1, blk_kept hs.2.1 hg hr, blk_kept hs.2.2 hg hr⟩) _) (ownFrom_below (Nat.le_refl _) (by omega)))
    (fun c => OwnFrom.and (Own.from (fun s A B row hs hg hr => by obtain ⟨g0, x, g1, g2, g3⟩ := hs; exact ⟨g0, x, g1, blk_kept g2 hg hr, blk_kept g3 hg hr⟩) _) (ownFrom_below (Nat.le_refl _) (by omega)))
    ⟨⟨rfl, bO, bN⟩, hB0⟩
    (fun x a' W => ∃ Bx, OrdAt W Bx x ∧ a' = { tmps := #[.pointer (some ⟨bb, 0, none⟩), .int .i64 side, undef, undef, .pointer (some ⟨w.heap.size, 0, none⟩), .pointer (some ⟨w.heap.size + 1, 0, none⟩), .pointer (some ⟨Bx, 0, none⟩), .int .i64 side, .bool true, .bool false, undef, undef, .pointer (some ⟨bb, 0, none⟩), .int .i64 side, .int .i64 s, .func (.func 59) #[] #[.pointer (some ⟨w.heap.size + 1 + 1, 0, none⟩), .pointer (some ⟨w.heap.size + 1 + 1 + 1, 0, none⟩)], Ord.agg x, undef, undef, undef], defers := [] })
    (fun x a' _ X Y row hs hg hr => by obtain ⟨Bx, h2, h3⟩ := hs; exact ⟨Bx, blk_kept h2 hg (fun r e => (hr r e).2), h3⟩)
    ?assign ?body ?done ?stop
  case assign =>
    rintro l pre x W K ⟨⟨h1, h2, h3⟩, hBW⟩ hK
    have lS := hBW.size
    unfold Ord.agg at hK ⊢
    gi_wp2
    refine hK _ _ ((KeepsOthers.alloc _ _).from _) (KpL.of_below (bel1 _ _) lS) ⟨⟨h1, blk_below h2 (bel1 _ _) (Nat.le_refl _), blk_below h3 (bel1 _ _) (Nat.le_refl _)⟩, hBW.alloc hBW.size _⟩ ⟨W.heap.size, heap_alloc_new _ _, rfl⟩
  case body =>
    rintro l pre x a' W hl ⟨r, hr⟩ ⟨⟨rfl, h2, h3⟩, hBW⟩ ⟨Bx, bX, rfl⟩ hlt
    have c0 := blk_cell (j := 0) bX rfl
    have c1 := blk_cell (j := 1) bX rfl
    have c2 := blk_cell (j := 2) bX rfl
    have c3 := blk_cell (j := 3) bX rfl
    have c4 := blk_cell (j := 4) bX rfl
    have d0 := blk_free (j := 0) h2
    have d1 := blk_free (j := 1) h2
    have d2 := blk_free (j := 2) h2
    have d3 := blk_free (j := 3) h2
    have d4 := blk_free (j := 4) h2
    have e0 := blk_free (j := 0) h3
    have E0 := blk_cell (j := 0) h3 rfl
    have D0 := blk_cell (j := 0) h2 rfl
    have D1 := blk_cell (j := 1) h2 rfl
    have D2 := blk_cell (j := 2) h2 rfl
    have D3 := blk_cell (j := 3) h2 rfl
    have D4 := blk_cell (j := 4) h2 rfl
    have H2 : Hid _ := h2
    have H3 : Hid _ := h3
    have HBW : Hid (Below w.heap.size w W) := hBW
    clear h2 h3 hBW bX hr
    unfold Ord.agg
    gi_wp2_with fail
    have o5 : Out (fun j => j = w.heap.size) W _ := out_setIn (p := ⟨w.heap.size, 4, none⟩) (u := .int .i64 x.qty) (out_setIn (p := ⟨w.heap.size, 3, none⟩) (u := .int .i64 x.price) (out_setIn (p := ⟨w.heap.size, 2, none⟩) (u := .int .i64 x.kind) (out_setIn (p := ⟨w.heap.size, 1, none⟩) (u := .int .i64 x.side) (out_setIn (p := ⟨w.heap.size, 0, none⟩) (u := .int .i64 x.id) (Out.refl _ _) rfl) rfl) rfl) rfl) rfl
    have g2 := blk_set (j := 4) (.int .i64 x.qty) (blk_set (j := 3) (.int .i64 x.price) (blk_set (j := 2) (.int .i64 x.kind) (blk_set (j := 1) (.int .i64 x.side) (blk_set (j := 0) (.int .i64 x.id) H2.out))))
    have g3 := blk_set (j := 0) .nilIface (blk_out H3.out o5 (by simp))
    refine ⟨((((((KeepsOthers.setCell _ _ _).trans (KeepsOthers.setCell _ _ _)).trans (KeepsOthers.setCell _ _ _)).trans (KeepsOthers.setCell _ _ _)).trans (KeepsOthers.setCell _ _ _)).trans (KeepsOthers.setCell _ _ _)).from _, ⟨rfl, x, rfl, blk_out g2 (out_set _ ⟨w.heap.size + 1, 0, none⟩ _) (by simp), g3⟩, ?_⟩
    exact HBW.out.trans (((((((Below.refl _ W).setCell (p := ⟨w.heap.size, 0, none⟩) (by simp) _).setCell (p := ⟨w.heap.size, 1, none⟩) (by simp) _).setCell (p := ⟨w.heap.size, 2, none⟩) (by simp) _).setCell (p := ⟨w.heap.size, 3, none⟩) (by simp) _).setCell (p := ⟨w.heap.size, 4, none⟩) (by simp) _).setCell (p := ⟨w.heap.size + 1, 0, none⟩) (by simp) _)
  case done =>
    rintro D ys W hD rfl ⟨⟨h1, h2, h3⟩, hBW⟩ hK
    have d0 := blk_free (j := 0) h2
    have d1 := blk_free (j := 1) h2
    have d2 := blk_free (j := 2) h2
    have d3 := blk_free (j := 3) h2
    have d4 := blk_free (j := 4) h2
    have e0 := blk_free (j := 0) h3
    have E0 := blk_cell (j := 0) h3 rfl
    have D0 := blk_cell (j := 0) h2 rfl
    have D1 := blk_cell (j := 1) h2 rfl
    have D2 := blk_cell (j := 2) h2 rfl
    have D3 := blk_cell (j := 3) h2 rfl
    have D4 := blk_cell (j := 4) h2 rfl
    gi_wp2
    have o5 : Out (fun j => j = w.heap.size) W _ := out_setIn (p := ⟨w.heap.size, 4, none⟩) (u := .int .i64 0) (out_setIn (p := ⟨w.heap.size, 3, none⟩) (u := .int .i64 0) (out_setIn (p := ⟨w.heap.size, 2, none⟩) (u := .int .i64 0) (out_setIn (p := ⟨w.heap.size, 1, none⟩) (u := .int .i64 0) (out_setIn (p := ⟨w.heap.size, 0, none⟩) (u := .int .i64 0) (Out.refl _ _) rfl) rfl) rfl) rfl) rfl
    have g2 := blk_set (j := 4) (.int .i64 0) (blk_set (j := 3) (.int .i64 0) (blk_set (j := 2) (.int .i64 0) (blk_set (j := 1) (.int .i64 0) (blk_set (j := 0) (.int .i64 0) h2))))
    have g2 := blk_out g2 (out_set _ ⟨w.heap.size + 1, 0, none⟩ (.iface 75 (.int .i64 8))) (by simp)
    have g3 := blk_set (j := 0) (.iface 75 (.int .i64 8)) (blk_out h3 o5 (by simp))
    have hbw := hBW.trans (((((((Below.refl _ W).setCell (p := ⟨w.heap.size, 0, none⟩) (by simp) (.int .i64 0)).setCell (p := ⟨w.heap.size, 1, none⟩) (by simp) (.int .i64 0)).setCell (p := ⟨w.heap.size, 2, none⟩) (by simp) (.int .i64 0)).setCell (p := ⟨w.heap.size, 3, none⟩) (by simp) (.int .i64 0)).setCell (p := ⟨w.heap.size, 4, none⟩) (by simp) (.int .i64 0)).setCell (p := ⟨w.heap.size + 1, 0, none⟩) (by simp) (.iface 75 (.int .i64 8)))
    have lD : D < W.heap.size := lt_of_some hK
    have hK6 := ((out_set _ ⟨w.heap.size + 1, 0, none⟩ (.iface 75 (.int .i64 8))).block D (Nat.lt_of_lt_of_le lD o5.size) (by show ¬ (D = w.heap.size + 1); omega)).trans ((o5.block D lD (by show ¬ (D = w.heap.size); omega)).trans hK)
    clear o5
    have hbe : bestV ((S s).map Ly.o) = .tuple #[Ord.none_.agg, .iface 75 (.int .i64 8)] := by rw [h1]; rfl
    rw [hbe]
    exact best_end g2 g3 hK6 hbw (by omega)
  case stop =>
    rintro D c pre W hD hpre ⟨⟨rfl, x, rfl, h2, h3⟩, hBW⟩ hK
    have hbe : bestV ((S s).map Ly.o) = .tuple #[x.agg, .nilIface] := by
      obtain ⟨r, hr⟩ := hpre
      rw [← hr]; rfl
    gi_wp2
    rw [hbe]
    exact best_end h2 h3 hK hBW (by omega)

set_option maxRecDepth 100000 in
set_option maxHeartbeats 1000000 in
theorem best_arg (bb : Nat) (w : World) (side : Int) (hss : (side == 1 || side == 2) = false) :
    Calls Try.prog 43 #[.pointer (some ⟨bb, 0, none⟩), .int .i64 side] w fun e W' => e = .returned (.tuple #[Ord.none_.agg, .iface 75 (.int .i64 1)]) ∧ Below w.heap.size w W' := by
  have HS : Hid ((side == 1 || side == 2) = false) := hss
  clear hss
  unfold Ord.agg Ord.none_
  go_enter Try.func43, Try.ntmps43
  go_wp2_with fail
  refine (isSide_any side _).mono ?_
  rintro e w1 ⟨rfl, hw⟩
  replace hw := hw.symm
  subst hw
  rw [HS.out]
  go_wp2_with fail
  refine bodyPost_ret (by simp [results, Try.results43, go_sem]; try rfl) rfl ?_
  exact ⟨rfl, bel2 _ _ _⟩

/-- 4.2, Best of a book in memory -/
theorem pbBest (bb m s : Nat) (b : BkS) (w : World) (h : Bk w bb m b) (hs : s < 2) (side : Int) (hsd : side = (s : Int) + 1) :
    Calls Try.prog 43 #[.pointer (some ⟨bb, 0, none⟩), .int .i64 side] w fun e W' => e = .returned (bestV ((b.S s).map Ly.o)) ∧ Below w.heap.size w W' :=
  best_any bb b.ab b.mb b.n s b.vs b.vf b.v0 b.v1 b.rs b.fr b.S hs (by have h1 := (pb_len b.S [] hs).2; have h2 := h.ok.most; omega) (h.ok.there s hs) w h.at_ side hsd
/-- 4.2, Side of a book in memory -/
theorem pbSideOf (bb m s : Nat) (b : BkS) (w : World) (h : Bk w bb m b) (hs : s < 2) (side : Int) (hsd : side = (s : Int) + 1) :
    Calls Try.prog 14 #[.pointer (some ⟨bb, 0, none⟩), .int .i64 side] w
      fun e W' => ∃ v, e = .returned (.tuple #[v, .nilIface]) ∧ W'.ownsRow w.heap.size 40 5 v (b.S s).length (oV ((b.S s).map Ly.o)) ∧ Below w.heap.size w W' :=
  pbSide bb b.ab b.mb b.n s b.vs b.vf b.v0 b.v1 b.rs b.fr b.S hs (by have h1 := (pb_len b.S [] hs).2; have h2 := h.ok.most; omega) (h.ok.there s hs) w h.at_ side hsd
end Go.Proofs.Ytcoijhofliilmab

/-
  Who came and went left nothing, over plain lists: sides without the orders that were added behind them. Conditions stand in each theorem.
-/
namespace Go.Proofs.Ytcoijhofliilmab
open Go.RowKit

def notIn (A : List Int) (y : Ly) : Bool := decide (y.o.id ∉ A)
/-- S' is S and orders of these ids besides -/
structure Kept (S S' : Nat → List Ly) (A : List Int) : Prop where
  same : ∀ s, s < 2 → (S' s).filter (notIn A) = S s
  lie : ∀ i ∈ A, Lies_ S' i
theorem Kept.start (S : Nat → List Ly) : Kept S S [] := ⟨fun s _ => by rw [List.filter_eq_self]; intro y _; simp [notIn], fun i hi => by cases hi⟩
theorem Kept.done {S S' : Nat → List Ly} (h : Kept S S' []) {s : Nat} (hs : s < 2) : S' s = S s := by
  have := h.same s hs
  rwa [List.filter_eq_self.2 (fun y _ => by simp [notIn])] at this
theorem Kept.add {S S' : Nat → List Ly} {A : List Int} {s n : Nat} {x : Ly} (h : Kept S S' A) (hs : s < 2) (hno : ∀ t, t < 2 → ∀ y ∈ S' t, y.o.id ≠ x.o.id) : Kept S (upS S' s (insAt n x (S' s))) (A ++ [x.o.id]) := by
  have hf : ∀ t, t < 2 → ∀ l : List Ly, (∀ y ∈ l, y ∈ S' t) → l.filter (notIn (A ++ [x.o.id])) = l.filter (notIn A) := fun t ht l hl => List.filter_congr fun y hy => by
    have := hno t ht y (hl y hy)
    simp [notIn, this]
  refine ⟨fun t ht => ?_, fun i hi => ?_⟩
  · by_cases e : t = s
    · subst e
      rw [upS_same, ← h.same t ht]
      unfold insAt
      have hx : notIn (A ++ [x.o.id]) x = false := by simp [notIn]
      rw [List.filter_append, List.filter_cons, hx, hf t ht _ (fun y hy => List.mem_of_mem_take hy)]
      simp only [Bool.false_eq_true, if_false]
      rw [hf t ht _ (fun y hy => List.mem_of_mem_drop hy), ← List.filter_append, List.take_append_drop]
    · rw [upS_other _ e, hf t ht _ (fun y hy => hy)]
      exact h.same t ht
  · rcases List.mem_append.1 hi with hi | hi
    · obtain ⟨t, ht, y, hy, he⟩ := h.lie i hi
      exact ⟨t, ht, y, (put_mem t y).2 (Or.inr hy), he⟩
    · simp only [List.mem_singleton] at hi
      exact ⟨s, hs, x, (put_mem s x).2 (Or.inl ⟨rfl, rfl⟩), hi.symm⟩
theorem Kept.gone {S S' : Nat → List Ly} {A A' : List Int} {m s i : Nat} {rs : List Sot} {fr : List Nat} {x : Ly} (h : Kept S S' A) (hp : Pb m rs fr S') (hs : s < 2) (hi : i < (S' s).length) (hx : lyAt (S' s) i = x) (hA : x.o.id ∈ A) (hA' : ∀ j, j ∈ A' ↔ (j ∈ A ∧ j ≠ x.o.id)) :
    Kept S (upS S' s (outAt i (S' s))) A' := by
  have hm := gone_mem hp hs hi hx
  have hf : ∀ t, t < 2 → ∀ y ∈ upS S' s (outAt i (S' s)) t, notIn A' y = notIn A y := fun t ht y hy => by
    have := ((hm t ht y).1 hy).2
    simp [notIn, hA', this]
  refine ⟨fun t ht => ?_, fun j hj => ?_⟩
  · rw [List.filter_congr (hf t ht), ← h.same t ht]
    by_cases e : t = s
    · subst e
      rw [upS_same]
      have h1 : S' t = (S' t).take i ++ x :: (S' t).drop (i + 1) := by rw [← hx, lyAt_eq hi, ← List.drop_eq_getElem_cons hi, List.take_append_drop]
      have hx0 : notIn A x = false := by simp [notIn, hA]
      conv => rhs; rw [h1]
      unfold outAt
      rw [List.filter_append, List.filter_append, List.filter_cons, hx0]
      simp
    · rw [upS_other _ e]
  · obtain ⟨hj1, hj2⟩ := (hA' j).1 hj
    obtain ⟨t, ht, y, hy, he⟩ := h.lie j hj1
    exact ⟨t, ht, y, (hm t ht y).2 ⟨hy, by rw [he]; exact hj2⟩, he⟩
end Go.Proofs.Ytcoijhofliilmab
