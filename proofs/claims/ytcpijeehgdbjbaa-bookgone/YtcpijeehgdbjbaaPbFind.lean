/-
  What the program's find and Order return, over this seat's translation. Conditions stand in each theorem.
-/
import Derived.Test.YtcpijeehgdbjbaaPbAdd
import Derived.Test.YtcpijeehgdbjbaaPbDel
namespace Go.Proofs.Ytcpijeehgdbjbaa
open Go.RowKit

attribute [local go_sem ↓] Go.wp_at_zero Go.wp_at_succ

def five (w : World) (b : Nat) (o : Ord) : World := ((((w.setCell ⟨b, 0, none⟩ (.int .i64 o.id)).setCell ⟨b, 1, none⟩ (.int .i64 o.side)).setCell ⟨b, 2, none⟩ (.int .i64 o.kind)).setCell ⟨b, 3, none⟩ (.int .i64 o.price)).setCell ⟨b, 4, none⟩ (.int .i64 o.qty)
def three (w : World) (b : Nat) (k a s : Int) : World := ((w.setCell ⟨b, 0, none⟩ (.int .i64 k)).setCell ⟨b, 1, none⟩ (.int .i64 a)).setCell ⟨b, 2, none⟩ (.int .i64 s)
theorem five_out (w : World) (b : Nat) (o : Ord) : Out (fun j => j = b) w (five w b o) := out_five w b _ _ _ _ _
theorem three_out (w : World) (b : Nat) (k a s : Int) : Out (fun j => j = b) w (three w b k a s) :=
  ((out_set w ⟨b, 0, none⟩ _).trans (out_set _ ⟨b, 1, none⟩ _) (Went.refl _ _)).trans (out_set _ ⟨b, 2, none⟩ _) (Went.refl _ _)
theorem five_is {w : World} {b : Nat} {u0 u1 u2 u3 u4 : Value} {t : TypeId} (o : Ord) (h : w.heap[b]? = some (.cells #[u0, u1, u2, u3, u4] t (0, 0))) : (five w b o).heap[b]? = some (.cells #[.int .i64 o.id, .int .i64 o.side, .int .i64 o.kind, .int .i64 o.price, .int .i64 o.qty] t (0, 0)) :=
  blk_set (j := 4) _ (blk_set (j := 3) _ (blk_set (j := 2) _ (blk_set (j := 1) _ (blk_set (j := 0) _ h))))
theorem three_is {w : World} {b : Nat} {u0 u1 u2 : Value} {t : TypeId} (k a s : Int) (h : w.heap[b]? = some (.cells #[u0, u1, u2] t (0, 0))) : (three w b k a s).heap[b]? = some (.cells #[.int .i64 k, .int .i64 a, .int .i64 s] t (0, 0)) :=
  blk_set (j := 2) _ (blk_set (j := 1) _ (blk_set (j := 0) _ h))
theorem drew_heap (w : World) : w.drew.heap = w.heap := rfl
def plV (x : Ly) (s : Nat) : Value := .agg #[.int .i64 x.slot, .int .i64 x.age, .int .i64 s]

set_option maxRecDepth 100000 in
set_option maxHeartbeats 2000000 in
theorem find_no (bb m : Nat) (b : BkS) (id : Int) (w : World) (h : Bk w bb m b) (hw : (Lit.int .i64 id).wf = true) (hno : ∀ s, s < 2 → ∀ x ∈ b.S s, x.o.id ≠ id) :
    Calls Try.prog 40 #[.pointer (some ⟨bb, 0, none⟩), .int .i64 id] w fun e W' => e = .returned (.tuple #[Ord.none_.agg, .agg #[.int .i64 0, .int .i64 0, .int .i64 0], .iface 55 (.int .i64 7)]) ∧ Below w.heap.size w W' := by
  have HB2 := bel2 w (.cells #[.int .i64 0, .int .i64 0, .int .i64 0, .int .i64 0, .int .i64 0] 43) (.cells #[.int .i64 0, .int .i64 0, .int .i64 0] 78)
  have hbk := h.below HB2 (Nat.le_refl _)
  have m1 : w.cell? ⟨bb, 1, none⟩ = some (.map (some b.mb)) := blk_cell (j := 1) h.at_.box rfl
  have hrun := hbk.at_.map.no hno hw
  have lb : bb < w.heap.size := h.lt (Or.inl rfl)
  clear h hbk hno hw HB2
  go_enter Try.func40, Try.ntmps40
  go_wp2
  refine bodyPost_ret (by simp [results, Try.results40, go_sem]; try rfl) rfl ?_
  refine ⟨rfl, ?_⟩
  (repeat' first | assumption | exact Below.refl _ _ | exact Nat.le_refl _ | refine Below.drew ?_ | refine Below.alloc ?_ ?_ _ | (simp; done) | (simp; omega))

set_option maxRecDepth 100000 in
set_option maxHeartbeats 4000000 in
theorem find_yes (bb m s : Nat) (b : BkS) (x : Ly) (w : World) (h : Bk w bb m b) (hs : s < 2) (hx : x ∈ b.S s) :
    Calls Try.prog 40 #[.pointer (some ⟨bb, 0, none⟩), .int .i64 x.o.id] w fun e W' => e = .returned (.tuple #[x.o.agg, plV x s, .nilIface]) ∧ Below w.heap.size w W' := by
  have HB2 := bel2 w (.cells #[.int .i64 0, .int .i64 0, .int .i64 0, .int .i64 0, .int .i64 0] 43) (.cells #[.int .i64 0, .int .i64 0, .int .i64 0] 78)
  have hbk := h.below HB2 (Nat.le_refl _)
  have m1 : w.cell? ⟨bb, 1, none⟩ = some (.map (some b.mb)) := blk_cell (j := 1) h.at_.box rfl
  have hrun := hbk.at_.map.yes hs hx (h.ok.ok s hs x hx).2.1
  have lb : bb < w.heap.size := h.lt (Or.inl rfl)
  have HO : Hid (soAt b.rs x.slot = (some x.o, x.age)) := h.ok.there s hs x hx
  have H : Hid (Bk w bb m b) := h
  clear h hbk HB2
  unfold Ord.agg plV
  go_enter Try.func40, Try.ntmps40
  go_upto_region 4 with fail
  have hb2 := bel2 w (.cells #[.int .i64 0, .int .i64 0, .int .i64 0, .int .i64 0, .int .i64 0] 43) (.cells #[.int .i64 0, .int .i64 0, .int .i64 0] 78)
  have hr1 := two_old w (.cells #[.int .i64 0, .int .i64 0, .int .i64 0, .int .i64 0, .int .i64 0] 43) (.cells #[.int .i64 0, .int .i64 0, .int .i64 0] 78)
  have hr2 := two_new w (.cells #[.int .i64 0, .int .i64 0, .int .i64 0, .int .i64 0, .int .i64 0] 43) (.cells #[.int .i64 0, .int .i64 0, .int .i64 0] 78)
  have hsz : ((w.alloc (.cells #[.int .i64 0, .int .i64 0, .int .i64 0, .int .i64 0, .int .i64 0] 43)).alloc (.cells #[.int .i64 0, .int .i64 0, .int .i64 0] 78)).heap.size = w.heap.size + 1 + 1 := by simp
  generalize (w.alloc (.cells #[.int .i64 0, .int .i64 0, .int .i64 0, .int .i64 0, .int .i64 0] 43)).alloc (.cells #[.int .i64 0, .int .i64 0, .int .i64 0] 78) = wq at hb2 hr1 hr2 hsz ⊢
  have hb3 := bel1 wq (.cells #[.int .i64 x.slot, .int .i64 x.age, .int .i64 s] 78)
  have hr3 := heap_alloc_new wq (.cells #[.int .i64 x.slot, .int .i64 x.age, .int .i64 s] 78)
  rw [hsz] at hr3
  have hr1 := blk_below hr1 hb3 (Nat.le_refl _)
  have hr2 := blk_below hr2 hb3 (Nat.le_refl _)
  have hbp := bel_then hb2 hb3
  generalize wq.alloc (.cells #[.int .i64 x.slot, .int .i64 x.age, .int .i64 s] 78) = wp at hb3 hr1 hr2 hr3 hbp ⊢
  have HB : Hid (Below w.heap.size w wp) := hbp
  have HR1 : Hid (wp.heap[w.heap.size]? = some (.cells #[.int .i64 0, .int .i64 0, .int .i64 0, .int .i64 0, .int .i64 0] 43 (0, 0))) := hr1
  have HR2 : Hid (wp.heap[w.heap.size + 1]? = some (.cells #[.int .i64 0, .int .i64 0, .int .i64 0] 78 (0, 0))) := hr2
  have HR3 : Hid (wp.heap[w.heap.size + 1 + 1]? = some (.cells #[.int .i64 x.slot, .int .i64 x.age, .int .i64 s] 78 (0, 0))) := hr3
  have HBK : Hid (Bk wp bb m b) := H.out.below hbp (Nat.le_refl _)
  clear hb2 hb3 hr1 hr2 hr3 hbp hsz m1 hrun
  have HS : Hid (∀ w', Below wp.heap.size wp w' → (w'.cell? ⟨bb, 0, none⟩ = some (.pointer (some ⟨b.ab, 0, none⟩)) ∧ w'.cell? ⟨w.heap.size + 1 + 1, 0, none⟩ = some (.int .i64 x.slot) ∧ w'.cell? ⟨w.heap.size + 1 + 1, 1, none⟩ = some (.int .i64 x.age) ∧ Below wp.heap.size wp w')) := fun w' hb =>
    ⟨blk_cell (j := 0) (blk_below HBK.out.at_.box hb (Nat.le_refl _)) rfl, blk_cell (j := 0) (blk_below HR3.out hb (Nat.le_refl _)) rfl, blk_cell (j := 1) (blk_below HR3.out hb (Nat.le_refl _)) rfl, hb⟩
  have hs0 := HS.out wp (Below.refl _ _)
  go_cut [9, 10] from 25 to 34 (fun p9 p10 wd => p10 = .nilIface ∧ ∃ xb, p9 = .pointer (some ⟨xb, 0, none⟩) ∧ wp.heap.size ≤ xb ∧ OrdAt wd xb x.o ∧ Below wp.heap.size wp wd)
  case first =>
    go_region_held3 (fun w' => w'.cell? ⟨bb, 0, none⟩ = some (.pointer (some ⟨b.ab, 0, none⟩)) ∧ w'.cell? ⟨w.heap.size + 1 + 1, 0, none⟩ = some (.int .i64 x.slot) ∧ w'.cell? ⟨w.heap.size + 1 + 1, 1, none⟩ = some (.int .i64 x.age) ∧ Below wp.heap.size wp w')
      ((refine HS.out _ ?_; (repeat' first | assumption | exact Below.refl _ _ | exact Nat.le_refl _ | refine Below.drew ?_ | refine Below.alloc ?_ ?_ _ | refine bel_then ?_ hb1 | refine Below.setCell ?_ ?_ _ | (simp; done) | (simp; omega) | (have h9 := hb1.size; simp at h9 ⊢; omega))))
      (first | (go_at_call 51; refine (oaGet b.ab 100 b.vs b.vf b.rs b.fr x.slot x.o x.age _ (HBK.out.at_.ar.below (B := wp.heap.size) ?_ (Nat.le_refl _)) HO.out).mono ?_; (repeat' first | assumption | exact Below.refl _ _ | exact Nat.le_refl _ | refine Below.drew ?_ | refine Below.alloc ?_ ?_ _ | (simp; done) | (simp; omega)); rintro e w1 ⟨hb1, rfl⟩; unfold Ord.agg; try (have hxb := (hb1.block wp.heap.size (by simp)).trans (heap_alloc_new wp _); have y0 := blk_cell (j := 0) hxb rfl; have y1 := blk_cell (j := 1) hxb rfl; have y2 := blk_cell (j := 2) hxb rfl; have y3 := blk_cell (j := 3) hxb rfl; have y4 := blk_cell (j := 4) hxb rfl; have z0 := blk_free (j := 0) hxb; have z1 := blk_free (j := 1) hxb; have z2 := blk_free (j := 2) hxb; have z3 := blk_free (j := 3) hxb; have z4 := blk_free (j := 4) hxb)))
    · go_wp2_with fail
      go_meet
      exact ⟨rfl, w1.heap.size, rfl, hb1.size, heap_alloc_new w1 _, bel_then (w1 := w1) (bel_then (w := wp) (w1 := wp.drew) (Below.refl _ _).drew hb1) (bel1 _ _)⟩
    · go_wp2_with fail
      go_meet
      refine ⟨rfl, wp.heap.size, rfl, Nat.le_refl _, blk_set (j := 4) (.int .i64 x.o.qty) (blk_set (j := 3) (.int .i64 x.o.price) (blk_set (j := 2) (.int .i64 x.o.kind) (blk_set (j := 1) (.int .i64 x.o.side) (blk_set (j := 0) (.int .i64 x.o.id) hxb)))), ?_⟩
      have h8 : Below wp.heap.size wp w1 := bel_then (bel1 wp _).drew hb1
      exact ((((h8.setCell (p := ⟨wp.heap.size, 0, none⟩) (Nat.le_refl _) _).setCell (p := ⟨wp.heap.size, 1, none⟩) (Nat.le_refl _) _).setCell (p := ⟨wp.heap.size, 2, none⟩) (Nat.le_refl _) _).setCell (p := ⟨wp.heap.size, 3, none⟩) (Nat.le_refl _) _).setCell (p := ⟨wp.heap.size, 4, none⟩) (Nat.le_refl _) _
  case rest =>
    obtain ⟨rfl, xb, rfl, hxl, hxo, hbd⟩ := hcut
    have g1 := blk_below HR1.out hbd (Nat.le_refl _)
    have g2 := blk_below HR2.out hbd (Nat.le_refl _)
    have g3 := blk_below HR3.out hbd (Nat.le_refl _)
    have lp : w.heap.size + 1 + 1 < wp.heap.size := lt_of_block HR3.out
    have HBD : Hid (Below w.heap.size w wc) := bel_then HB.out hbd
    have x0 := blk_cell (j := 0) hxo rfl
    have x1 := blk_cell (j := 1) hxo rfl
    have x2 := blk_cell (j := 2) hxo rfl
    have x3 := blk_cell (j := 3) hxo rfl
    have x4 := blk_cell (j := 4) hxo rfl
    have p0 := blk_cell (j := 0) g3 rfl
    have p1 := blk_cell (j := 1) g3 rfl
    have p2 := blk_cell (j := 2) g3 rfl
    have n1 : xb ≠ w.heap.size := by omega
    have n2 : xb ≠ w.heap.size + 1 := by omega
    have HXO : Hid (OrdAt wc xb x.o) := hxo
    have HG3 : Hid (wc.heap[w.heap.size + 1 + 1]? = some (.cells #[.int .i64 x.slot, .int .i64 x.age, .int .i64 s] 78 (0, 0))) := g3
    have HG1 : Hid _ := g1
    have HG2 : Hid _ := g2
    have a0 := blk_cell (j := 0) g1 rfl
    have a1 := blk_cell (j := 1) g1 rfl
    have a2 := blk_cell (j := 2) g1 rfl
    have a3 := blk_cell (j := 3) g1 rfl
    have a4 := blk_cell (j := 4) g1 rfl
    have b0 := blk_cell (j := 0) g2 rfl
    have b1 := blk_cell (j := 1) g2 rfl
    have b2 := blk_cell (j := 2) g2 rfl
    have f0 := blk_free (j := 0) g1
    have f1 := blk_free (j := 1) g1
    have f2 := blk_free (j := 2) g1
    have f3 := blk_free (j := 3) g1
    have f4 := blk_free (j := 4) g1
    have f5 := blk_free (j := 0) g2
    have f6 := blk_free (j := 1) g2
    have f7 := blk_free (j := 2) g2
    clear hs0 HS hbd hxo g1 g2 g3 hxl lp
    go_wp2_with fail
    have HS5 : Hid (∀ w', Out (fun j => j = w.heap.size ∨ j = w.heap.size + 1) wc w' → (w'.cell? ⟨xb, 0, none⟩ = some (.int .i64 x.o.id) ∧ w'.cell? ⟨xb, 1, none⟩ = some (.int .i64 x.o.side) ∧ w'.cell? ⟨xb, 2, none⟩ = some (.int .i64 x.o.kind) ∧ w'.cell? ⟨xb, 3, none⟩ = some (.int .i64 x.o.price) ∧ w'.cell? ⟨xb, 4, none⟩ = some (.int .i64 x.o.qty) ∧ w'.cell? ⟨w.heap.size + 1 + 1, 0, none⟩ = some (.int .i64 x.slot) ∧ w'.cell? ⟨w.heap.size + 1 + 1, 1, none⟩ = some (.int .i64 x.age) ∧ w'.cell? ⟨w.heap.size + 1 + 1, 2, none⟩ = some (.int .i64 s) ∧ Out (fun j => j = w.heap.size ∨ j = w.heap.size + 1) wc w')) := fun w' ho => by
      have k1 := blk_out HXO.out ho (fun e => by rcases e with e | e <;> omega)
      have k2 := blk_out HG3.out ho (fun e => by rcases e with e | e <;> omega)
      exact ⟨blk_cell (j := 0) k1 rfl, blk_cell (j := 1) k1 rfl, blk_cell (j := 2) k1 rfl, blk_cell (j := 3) k1 rfl, blk_cell (j := 4) k1 rfl, blk_cell (j := 0) k2 rfl, blk_cell (j := 1) k2 rfl, blk_cell (j := 2) k2 rfl, ho⟩
    have hs1 := HS5.out wc (Out.refl _ _)
    have hOF : Out (fun j => j = w.heap.size ∨ j = w.heap.size + 1) wc (five wc w.heap.size x.o).drew := out_drew ((five_out wc _ _).mono (fun j hj => Or.inl hj))
    have hOZ : Out (fun j => j = w.heap.size ∨ j = w.heap.size + 1) wc (three (five wc w.heap.size x.o) (w.heap.size + 1) x.slot x.age s).drew := out_drew (((five_out wc _ _).mono (fun j hj => Or.inl hj)).trans ((three_out _ _ _ _ _).mono (fun j hj => Or.inr hj)) (Went.refl _ _))
    have j1 : (three (five wc w.heap.size x.o) (w.heap.size + 1) x.slot x.age s).heap[w.heap.size]? = some (.cells #[.int .i64 x.o.id, .int .i64 x.o.side, .int .i64 x.o.kind, .int .i64 x.o.price, .int .i64 x.o.qty] 43 (0, 0)) := blk_out (five_is (w := wc) x.o HG1.out) (three_out _ _ _ _ _) (fun e => Nat.ne_of_lt (Nat.lt_succ_self _) e)
    have j2 : (three (five wc w.heap.size x.o) (w.heap.size + 1) x.slot x.age s).heap[w.heap.size + 1]? = some (.cells #[.int .i64 x.slot, .int .i64 x.age, .int .i64 s] 78 (0, 0)) := three_is (w := five wc w.heap.size x.o) _ _ _ (blk_out (w := wc) HG2.out (five_out _ _ _) (fun e => Nat.ne_of_gt (Nat.lt_succ_self _) e))
    have k1 : (three (five wc w.heap.size x.o) (w.heap.size + 1) x.slot x.age s).drew.heap[w.heap.size]? = some (.cells #[.int .i64 x.o.id, .int .i64 x.o.side, .int .i64 x.o.kind, .int .i64 x.o.price, .int .i64 x.o.qty] 43 (0, 0)) := by rw [drew_heap]; exact j1
    have k2 : (three (five wc w.heap.size x.o) (w.heap.size + 1) x.slot x.age s).drew.heap[w.heap.size + 1]? = some (.cells #[.int .i64 x.slot, .int .i64 x.age, .int .i64 s] 78 (0, 0)) := by rw [drew_heap]; exact j2
    clear j1 j2
    have k3 : Below w.heap.size w (three (five wc w.heap.size x.o) (w.heap.size + 1) x.slot x.age s).drew := HBD.out.trans (hOZ.below (fun j hj => by rcases hj with hj | hj <;> omega) HBD.out.size)
    unfold three five at hOZ k1 k2 k3
    unfold five at hOF
    have HOF : Hid _ := hOF
    have HOZ : Hid _ := hOZ
    have HK1 : Hid _ := k1
    have HK2 : Hid _ := k2
    have HK3 : Hid _ := k3
    clear hOF hOZ k1 k2 k3
    clear x0 x1 x2 x3 x4 p0 p1 p2
    refine wp_region_late (fun w' => w'.cell? ⟨xb, 0, none⟩ = some (.int .i64 x.o.id) ∧ w'.cell? ⟨xb, 1, none⟩ = some (.int .i64 x.o.side) ∧ w'.cell? ⟨xb, 2, none⟩ = some (.int .i64 x.o.kind) ∧ w'.cell? ⟨xb, 3, none⟩ = some (.int .i64 x.o.price) ∧ w'.cell? ⟨xb, 4, none⟩ = some (.int .i64 x.o.qty) ∧ w'.cell? ⟨w.heap.size + 1 + 1, 0, none⟩ = some (.int .i64 x.slot) ∧ w'.cell? ⟨w.heap.size + 1 + 1, 1, none⟩ = some (.int .i64 x.age) ∧ w'.cell? ⟨w.heap.size + 1 + 1, 2, none⟩ = some (.int .i64 s) ∧ Out (fun j => j = w.heap.size ∨ j = w.heap.size + 1) wc w') (fun _ => false) (by kernel_rfl) (HS5.out _ (out_drew (Out.refl _ _))) (fun hHeld => ?_)
    refine wpAnyL_take (i := 0) (v := ?_) rfl (by kernel_rfl) (by kernel_rfl) (by kernel_rfl) (by kernel_rfl) (by kernel_rfl) (fun _ _ _ h => h) (by rfl) ?_ (by assumption) ?_
    rotate_left
    · intro w hSw
      try dsimp only at hSw
      go_simp
      try rfl
    refine wpAnyL_take (i := 1) (v := ?_) rfl (by kernel_rfl) (by kernel_rfl) (by kernel_rfl) (by kernel_rfl) (by kernel_rfl) (fun _ _ _ h => h) (by rfl) ?_ (by assumption) ?_
    rotate_left
    · intro w hSw
      try dsimp only at hSw
      go_simp
      try rfl
    refine wpAnyL_take (i := 2) (v := ?_) rfl (by kernel_rfl) (by kernel_rfl) (by kernel_rfl) (by kernel_rfl) (by kernel_rfl) (fun _ _ _ h => h) (by rfl) ?_ (by assumption) ?_
    rotate_left
    · intro w hSw
      try dsimp only at hSw
      go_simp
      try rfl
    refine wpAnyL_ready (rs := [3]) (by kernel_rfl) (by simp) ?_
    refine AllReadyL.cons rfl (fun K hK => ?_) AllReadyL.nil
    go_simp
    refine hK.out _ _ (fun _ => HS5.out _ HOF.out) (fun hHeld => ?_)
    replace hHeld := hHeld rfl
    clear hK K
    refine wpAnyL_ready (rs := [4]) (by kernel_rfl) (by simp) ?_
    refine AllReadyL.cons rfl (fun K hK => ?_) AllReadyL.nil
    go_simp
    have hO5 := HOZ.out
    have k1 := HK1.out
    have k2 := HK2.out
    have k3 := HK3.out
    clear HOZ HK1 HK2 HK3
    generalize ((((((((wc.setCell ⟨w.heap.size, 0, none⟩ (.int .i64 x.o.id)).setCell ⟨w.heap.size, 1, none⟩ (.int .i64 x.o.side)).setCell ⟨w.heap.size, 2, none⟩ (.int .i64 x.o.kind)).setCell ⟨w.heap.size, 3, none⟩ (.int .i64 x.o.price)).setCell ⟨w.heap.size, 4, none⟩ (.int .i64 x.o.qty)).setCell ⟨w.heap.size + 1, 0, none⟩ (.int .i64 x.slot)).setCell ⟨w.heap.size + 1, 1, none⟩ (.int .i64 x.age)).setCell ⟨w.heap.size + 1, 2, none⟩ (.int .i64 s)).drew = wz at hO5 k1 k2 k3 ⊢
    refine hK.out _ _ (fun _ => HS5.out _ hO5) (fun hHeld => ?_)
    replace hHeld := hHeld rfl
    have e0 := blk_cell (j := 0) k1 rfl
    have e1 := blk_cell (j := 1) k1 rfl
    have e2 := blk_cell (j := 2) k1 rfl
    have e3 := blk_cell (j := 3) k1 rfl
    have e4 := blk_cell (j := 4) k1 rfl
    have e5 := blk_cell (j := 0) k2 rfl
    have e6 := blk_cell (j := 1) k2 rfl
    have e7 := blk_cell (j := 2) k2 rfl
    clear hK K a0 a1 a2 a3 a4 b0 b1 b2 f0 f1 f2 f3 f4 f5 f6 f7 hs1 hO5 k1 k2
    refine wpAnyL_ready (rs := [5]) (by kernel_rfl) (by simp) ?_
    refine AllReadyL.cons rfl (fun K hK => ?_) AllReadyL.nil
    go_simp
    refine hK.out _ _ (fun _ => hHeld) (fun _ => ?_)
    refine wpAnyL_done (by kernel_rfl) ?_ _
    go_wp2_with fail
    refine bodyPost_ret (by simp [results, Try.results40, go_sem, e0, e1, e2, e3, e4, e5, e6, e7]; try rfl) rfl ?_
    exact ⟨rfl, k3⟩
end Go.Proofs.Ytcpijeehgdbjbaa
