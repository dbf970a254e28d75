/-
  What the program's change does to an Indic, over this seat's translation. Conditions stand in each theorem.
-/
import Derived.Test.YtkfmljokenclaabDoorInMem
import Derived.Deep.RegionHeld3
namespace Go.Proofs.YtkfmljokenclaabDoor
open Go.RowKit

/-- lots within reach -/
def SmallF (f : Int → Int) : Prop := ∀ p, 0 ≤ f p ∧ f p ≤ 1000000000

theorem IndAt.market {w : World} {xb : Nat} {v : Value} {b s : Int → Int} {mb ms : Int} {m : Nat} (h : IndAt w xb v b s mb ms m) {j : Nat} {u : Value} {mb' ms' : Int} (hj : (#[v, Value.int .i64 0, Value.int .i64 mb, Value.int .i64 ms].setIfInBounds j u) = #[v, .int .i64 0, .int .i64 mb', .int .i64 ms']) :
    IndAt (w.setCell ⟨xb, j, none⟩ u) xb v b s mb' ms' m := by
  obtain ⟨l, h1, h2⟩ := h.row
  refine ⟨by rw [blk_set u h.blk, hj], l, owns_out h1 (out_set w ⟨xb, j, none⟩ u) (fun k hk e => ?_), h2⟩
  subst e
  exact owns_type h1 h.blk (by decide) hk
theorem own_set {w : World} {g cap : Nat} {l l' : List Lv} {j : Nat} {u : Value} (h : w.ownsRow 0 67 4 (.slice (some ⟨g, 0, none⟩) l.length cap) l.length (lvV l)) (hl : l'.length = l.length) (hj : (lvV l).set j u = lvV l') : (w.setCell ⟨g, j, none⟩ u).ownsRow 0 67 4 (.slice (some ⟨g, 0, none⟩) l.length cap) l.length (lvV l') := by
  rcases h.2 with ⟨h', _⟩ | ⟨g', cap', cur, h', _, hg, hnc, hcm, hcs, ht⟩
  · simp at h'
  simp only [Value.slice.injEq, Option.some.injEq, Addr.mk.injEq, and_true, true_and] at h'
  obtain ⟨rfl, rfl⟩ := h'
  refine ⟨by rw [lvV_length, hl], Or.inr ⟨g, cap, _, rfl, Nat.zero_le _, blk_set u hg, hnc, hcm, by simpa using hcs, ?_⟩⟩
  rw [Array.toList_setIfInBounds, List.take_set, ht, hj]

theorem lotsEq (b s : Int) (w : World) : (Op.equalIn 10000 25 (.agg #[.int .i64 0, .int .i64 b, .int .i64 s]) (.agg #[.int .i64 0, .int .i64 0, .int .i64 0])).run Tryd.prog w = .ok ((b == 0) && (s == 0)) w := by
  have u3 := Tryd.underlying3
  have a3 := Tryd.isAgg3
  have z3 := Tryd.sizeOf3
  rw [show (10000 : Nat) = 9999 + 1 from rfl, Op.equalIn]
  simp only [Sem.run_bind, run_underlying Tryd.underlying25, Result.andThen_ok]
  simp only [Std.Legacy.Range.forIn_eq_forIn_range', Std.Legacy.Range.size, Nat.sub_zero, Nat.add_sub_cancel, Nat.div_one, List.range'_succ, List.range'_zero, List.forIn_cons, List.forIn_nil]
  go_simp
  by_cases h1 : b = 0 <;> by_cases h2 : s = 0 <;> simp [h1, h2]

set_option maxRecDepth 4000 in
set_option maxHeartbeats 4000000 in
theorem inChangeM (xb : Nat) (v : Value) (b s : Int → Int) (mb ms : Int) (m : Nat) (o : Ord) (more : Int) (w : World) (h : IndAt w xb v b s mb ms m) (hk : o.kind = 2) (hs : o.side = 1 ∨ o.side = 2) (hmb : 0 ≤ mb ∧ mb ≤ 1000000000) (hms : 0 ≤ ms ∧ ms ≤ 1000000000) (hq : -1000000 ≤ more ∧ more ≤ 1000000) :
    Calls Tryd.prog 17 #[.pointer (some ⟨xb, 0, none⟩), .agg #[.int .i64 o.id, .int .i64 o.side, .int .i64 o.kind, .int .i64 o.price, .int .i64 o.qty], .int .i64 more] w fun e w' => e = .returned (.tuple #[]) ∧ IndAt w' xb v b s (if o.side = 1 then mb + more else mb) (if o.side = 1 then ms else ms + more) m ∧ Out (IndT xb v) w w' := by
  obtain ⟨id, side, kind, price, qty⟩ := o
  obtain rfl : kind = 2 := hk
  have HX : Hid (IndAt w xb v b s mb ms m) := h
  have hlx : xb < w.heap.size := lt_of_block h.blk
  have hbA := bel1 w (.cells #[.int .i64 id, .int .i64 side, .int .i64 2, .int .i64 price, .int .i64 qty] 30)
  have hA := heap_alloc_new w (.cells #[.int .i64 id, .int .i64 side, .int .i64 2, .int .i64 price, .int .i64 qty] 30)
  clear h
  rcases hs with rfl | rfl
  all_goals
    go_enter Tryd.func17, Tryd.ntmps17
    go_wp2_with fail
    have HXW := HX.out.below hbA
    generalize w.alloc (.cells #[.int .i64 id, .int .i64 _, .int .i64 2, .int .i64 price, .int .i64 qty] 30) = W at hbA hA HXW ⊢
    have x1 := blk_cell (j := 2) HXW.blk rfl
    have x2 := blk_cell (j := 3) HXW.blk rfl
    have f1 := blk_free (j := 2) HXW.blk
    have f2 := blk_free (j := 3) HXW.blk
    have o1 := blk_cell (j := 1) hA rfl
    have hne : ¬ w.heap.size = xb := by omega
    have hne' : ¬ xb = w.heap.size := by omega
    go_region
    go_wp2_with fail
    refine bodyPost_ret (results_none rfl _ _ _) rfl ?_
    refine ⟨rfl, ?_, ?_⟩
    · exact IndAt.below (IndAt.market HXW rfl) (Below.refl _ _).drew
    · exact out_drew (out_setIn (Out.of_below hbA (Nat.le_refl _)) (Or.inl rfl))

set_option maxRecDepth 4000 in
set_option maxHeartbeats 4000000 in
theorem inChangeL (xb : Nat) (v : Value) (b s : Int → Int) (mb ms : Int) (m : Nat) (o : Ord) (more : Int) (w : World) (h : IndAt w xb v b s mb ms m) (hm : m < 1000) (hk : o.kind ≠ 2) (hs : o.side = 1 ∨ o.side = 2) (hb : SmallF b) (hsf : SmallF s) (hq : -1000000 ≤ more ∧ more ≤ 1000000) :
    Calls Tryd.prog 17 #[.pointer (some ⟨xb, 0, none⟩), .agg #[.int .i64 o.id, .int .i64 o.side, .int .i64 o.kind, .int .i64 o.price, .int .i64 o.qty], .int .i64 more] w fun e w' => e = .returned (.tuple #[]) ∧ ∃ v', IndAt w' xb v' (if o.side = 1 then upI b o.price (b o.price + more) else b) (if o.side = 1 then s else upI s o.price (s o.price + more)) mb ms (m + 1) ∧ Out (IndT xb v) w w' ∧ Went w (IndT xb v) (IndT xb v') := by
  obtain ⟨id, side, kind, price, qty⟩ := o
  have hkb : (kind == 2) = false := beq_eq_false_iff_ne.2 hk
  have hlx : xb < w.heap.size := lt_of_block h.blk
  obtain ⟨hblk, l, hrow, hinv, hlm⟩ := h
  have HI : Hid (LvInv l b s) := hinv
  obtain ⟨a, cap, rfl, _, _⟩ := owns_shape hrow
  have hbA := bel1 w (.cells #[.int .i64 id, .int .i64 side, .int .i64 kind, .int .i64 price, .int .i64 qty] 30)
  have hA := heap_alloc_new w (.cells #[.int .i64 id, .int .i64 side, .int .i64 kind, .int .i64 price, .int .i64 qty] 30)
  have hXA := blk_below hblk hbA (Nat.le_refl _)
  have HRA : Hid ((w.alloc (.cells #[.int .i64 id, .int .i64 side, .int .i64 kind, .int .i64 price, .int .i64 qty] 30)).ownsRow 0 67 4 (.slice a l.length cap) l.length (lvV l)) := owns_below hrow hbA (Nat.le_refl _)
  clear hblk hrow hinv hk
  obtain ⟨ob, hob⟩ : ∃ ob, (Value.slice a l.length cap).ownBlock = ob := ⟨_, rfl⟩
  have HOB : Hid ((Value.slice a l.length cap).ownBlock = ob) := hob
  have HNX : Hid (ob ≠ some xb) := by rw [← hob]; exact owns_type HRA.out hXA (by decide)
  have HNO : Hid (ob ≠ some w.heap.size) := by rw [← hob]; exact owns_type HRA.out hA (by decide)
  clear hob
  go_enter Tryd.func17, Tryd.ntmps17
  go_wp2_with fail
  generalize w.alloc (.cells #[.int .i64 id, .int .i64 side, .int .i64 kind, .int .i64 price, .int .i64 qty] 30) = W at hbA hA hXA HRA ⊢
  have x0 := blk_cell (j := 0) hXA rfl
  have o3 := blk_cell (j := 3) hA rfl
  have hne : ¬ w.heap.size = xb := by omega
  have hne' : ¬ xb = w.heap.size := by omega
  have HX0 : Hid (W.heap[xb]? = some (.cells #[.slice a l.length cap, .int .i64 0, .int .i64 mb, .int .i64 ms] 27 (0, 0))) := hXA
  have HA0 : Hid (W.heap[w.heap.size]? = some (.cells #[.int .i64 id, .int .i64 side, .int .i64 kind, .int .i64 price, .int .i64 qty] 30 (0, 0))) := hA
  have HBA : Hid (Below w.heap.size w W) := hbA
  clear hXA hA hbA
  go_region_with (go_at_call 19; refine (inWith _ l price W.drew HRA.out HI.out.rises (by omega)).mono ?_; rintro e w5 ⟨v', rfl, hrow5, hout5, hat5⟩; (obtain ⟨a5, cap5, rfl, _, _⟩ := owns_shape hrow5; have x5 : w5.heap[xb]? = some (.cells #[.slice a l.length cap, .int .i64 0, .int .i64 mb, .int .i64 ms] 27 (0, 0)) := blk_out (w := W.drew) HX0.out hout5 (fun e => HNX.out (by rw [← HOB.out]; exact e)); have c5 := blk_cell (j := 0) x5 rfl; have f5 := blk_free (j := 0) x5))
  all_goals
    have HFX : Hid (LvInv l b s) := HI.out
    have HX6 := blk_set (j := 0) (.slice a5 (withL price l).length cap5) x5
    have HR6 : Hid ((w5.setCell ⟨xb, 0, none⟩ (.slice a5 (withL price l).length cap5)).ownsRow 0 67 4 (.slice a5 (withL price l).length cap5) (withL price l).length (lvV (withL price l))) := owns_out hrow5 (out_set w5 ⟨xb, 0, none⟩ _) (fun k hk e => by subst e; exact owns_type hrow5 x5 (by decide) hk)
    have hA5 : w5.heap[w.heap.size]? = some (.cells #[.int .i64 id, .int .i64 side, .int .i64 kind, .int .i64 price, .int .i64 qty] 30 (0, 0)) := blk_out (w := W.drew) HA0.out hout5 (fun e => HNO.out (by rw [← HOB.out]; exact e))
    have HA6 := blk_out hA5 (out_set w5 ⟨xb, 0, none⟩ (.slice a5 (withL price l).length cap5)) hne
    have HO6 : Hid (Out (IndT xb (.slice a l.length cap)) w (w5.setCell ⟨xb, 0, none⟩ (.slice a5 (withL price l).length cap5))) := out_setIn ((Out.of_below HBA.out.drew (Nat.le_refl _)).trans (hout5.mono (fun k hk => Or.inr hk)) (Went.refl _ _)) (Or.inl rfl)
    have HW6 : Hid (Went w (IndT xb (.slice a l.length cap)) (IndT xb (.slice a5 (withL price l).length cap5))) := fun k hk => by
      rcases hk with hk | hk
      · exact Or.inl (Or.inl hk)
      · rcases hat5 k hk with h1 | h1
        · exact Or.inl (Or.inr h1)
        · exact Or.inr (Nat.le_trans HBA.out.size h1)
    generalize w5.setCell ⟨xb, 0, none⟩ (.slice a5 (withL price l).length cap5) = W6 at HX6 HR6 HA6 HO6 HW6 ⊢
    clear hrow5 hout5 hat5 x5 c5 f5 hA5 x0 o3 HX0 HA0 HBA HRA HI
    go_wp2_with fail
    have x0 := cell_regrown (blk_cell (j := 0) HX6 rfl)
    have o3 := cell_regrown (blk_cell (j := 3) HA6 rfl)
    obtain ⟨h1, h2, h3, h4, h5⟩ := HFX.out.with price
    have hl1 := withL_len price l
    have HV1 : Hid (RiseL (withL price l) ∧ hasL price (withL price l) = true) := ⟨h1, h4⟩
    obtain ⟨hlt, hpr⟩ := hasL_pos h4
    obtain ⟨hbu, hse⟩ := h2 _ (lvAt_mem hlt)
    rw [hpr] at hbu hse
    have HPR : Hid ((lvAt (withL price l) (posL price (withL price l))).price = price ∧ (lvAt (withL price l) (posL price (withL price l))).buy = b price ∧ (lvAt (withL price l) (posL price (withL price l))).sell = s price) := ⟨hpr, hbu, hse⟩
    have HINV : Hid (∀ b' s' : Int, (b' ≠ 0 ∨ s' ≠ 0) → LvInv ((withL price l).set (posL price (withL price l)) ⟨price, b', s'⟩) (upI b price b') (upI s price s')) := fun b' s' hx => HFX.out.put price b' s' hx
    have HGON : Hid (LvInv (((withL price l).set (posL price (withL price l)) ⟨price, 0, 0⟩).eraseIdx (posL price (withL price l))) (upI b price 0) (upI s price 0)) := HFX.out.gone price
    clear h1 h2 h3 h4 h5 hpr hbu hse HFX
    generalize withL price l = l1 at HX6 HR6 HA6 HO6 HW6 x0 hl1 HV1 hlt HPR HINV HGON ⊢
    obtain ⟨_, _, _, hin⟩ := LvsIn.of_row HR6.out
    rename_i e0
    simp only [Value.slice.injEq, true_and] at e0
    obtain ⟨rfl, rfl⟩ := e0
    have HL6 : Hid (LvsIn W6 a5 l1) := hin
    clear hin
    have cF : ∀ dq os, Calls Tryd.prog 28 #[.slice a5 l1.length cap5, .int .i64 price] (Go.Sort.grow (redrawn W6 dq) os) fun e w'' => e = .returned (.tuple #[.int .i64 (posL price l1), .bool (hasL price l1)]) ∧ ∃ p : Regrown, w'' = Go.Sort.grow (redrawn W6 p.d) p.os := fun dq os => Calls.regrown_of (inFind a5 cap5 l1 price _ (HL6.out.below (below_regrown W6 dq os)) HV1.out.1 (by omega))
    refine wp_region_quiet_below (by kernel_rfl) (by kernel_rfl) ?_
    repeat (go_big_quiet_step (exact cF _ _))
    refine wpQuiet_nil ?_
    intro _ hw'
    obtain ⟨⟨dq, osq⟩, hw''⟩ := hw'
    subst hw''
    have hb7 := below_regrown W6 dq osq
    have hX7 := blk_below HX6 hb7 (Nat.le_refl _)
    have hA7 := blk_below HA6 hb7 (Nat.le_refl _)
    have hR7 := owns_below HR6.out hb7 (Nat.le_refl _)
    have HO7 : Hid (Out (IndT xb (.slice a l.length cap)) w (Go.Sort.grow (redrawn W6 dq) osq)) := HO6.out.trans (Out.of_below hb7 (Nat.le_refl _)) (Went.refl _ _)
    generalize Go.Sort.grow (redrawn W6 dq) osq = W7 at hX7 hA7 hR7 HO7 ⊢
    clear hb7 cF HX6 HA6 HR6 HO6 HL6 x0 o3
    rw [HV1.out.2]
    obtain ⟨g, cap', e0, _, _⟩ := hR7.form (by omega)
    simp only [Value.slice.injEq, true_and] at e0
    obtain ⟨rfl, rfl⟩ := e0
    have hng : g ≠ xb := fun e => owns_type hR7 hX7 (by decide) (by rw [e]; rfl)
    have hnb : g ≠ w.heap.size := fun e => owns_type hR7 hA7 (by decide) (by rw [e]; rfl)
    have hng' : xb ≠ g := fun e => hng e.symm
    have hnb' : w.heap.size ≠ g := fun e => hnb e.symm
    obtain ⟨d0, d1, d2, d3⟩ := lvV_at hlt
    rw [HPR.out.2.1] at d2
    rw [HPR.out.2.2] at d3
    have c1 := (hR7.cellAt _ (by omega)).trans d1
    have c2 := (hR7.cellAt _ (by omega)).trans d2
    have c3 := (hR7.cellAt _ (by omega)).trans d3
    obtain ⟨cur, hcur⟩ : ∃ cur, W7.heap[g]? = some (.cells cur 67 (0, 0)) := by
      rcases hR7.2 with ⟨h', _⟩ | ⟨g', cap', cur, h', _, hg, _⟩
      · simp at h'
      · simp only [Value.slice.injEq, Option.some.injEq, Addr.mk.injEq, and_true, true_and] at h'
        obtain ⟨rfl, rfl⟩ := h'
        exact ⟨cur, hg⟩
    have f2 := blk_free (j := posL price l1 * 4 + 2) hcur
    have f3 := blk_free (j := posL price l1 * 4 + 3) hcur
    have hlt' : ((posL price l1 : Nat) : Int) < (l1.length : Int) := by omega
    have q0 : (0 : Int) ≤ (posL price l1 : Int) := by omega
    have x0 := blk_cell (j := 0) hX7 rfl
    have o1 := blk_cell (j := 1) hA7 rfl
    have hb1 := hb price
    have hs1 := hsf price
    have HR7 : Hid (W7.ownsRow 0 67 4 (.slice (some ⟨g, 0, none⟩) l1.length cap5) l1.length (lvV l1)) := hR7
    have HX7 : Hid (W7.heap[xb]? = some (.cells #[.slice (some ⟨g, 0, none⟩) l1.length cap5, .int .i64 0, .int .i64 mb, .int .i64 ms] 27 (0, 0))) := hX7
    clear hR7 hX7 hA7 hcur d0 d1 d2 d3 HV1 hb hsf
    rcases hs with rfl | rfl
    · go_wp2_with fail
      go_region
      have e1 : (W7.setCell ⟨g, posL price l1 * 4 + 2, none⟩ (.int .i64 (b price + more))).drew.cell? ⟨xb, 0, none⟩ = some (.slice (some ⟨g, 0, none⟩) l1.length cap5) := (World.cell?_setCell_other W7 ⟨g, posL price l1 * 4 + 2, none⟩ ⟨xb, 0, none⟩ _ (fun e => hng (congrArg Addr.block e))).trans x0
      have e2 : (W7.setCell ⟨g, posL price l1 * 4 + 2, none⟩ (.int .i64 (b price + more))).drew.cell? ⟨g, posL price l1 * 4 + 1, none⟩ = some (.int .i64 0) := (World.cell?_setCell_other W7 ⟨g, posL price l1 * 4 + 2, none⟩ ⟨g, posL price l1 * 4 + 1, none⟩ _ (fun e => by have := congrArg Addr.off e; simp at this)).trans c1
      have e3 : (W7.setCell ⟨g, posL price l1 * 4 + 2, none⟩ (.int .i64 (b price + more))).drew.cell? ⟨g, posL price l1 * 4 + 2, none⟩ = some (.int .i64 (b price + more)) := World.cell?_setCell_same W7 ⟨g, posL price l1 * 4 + 2, none⟩ _ c2
      have e4 : (W7.setCell ⟨g, posL price l1 * 4 + 2, none⟩ (.int .i64 (b price + more))).drew.cell? ⟨g, posL price l1 * 4 + 3, none⟩ = some (.int .i64 (s price)) := (World.cell?_setCell_other W7 ⟨g, posL price l1 * 4 + 2, none⟩ ⟨g, posL price l1 * 4 + 3, none⟩ _ (fun e => by have := congrArg Addr.off e; simp at this)).trans c3
      have HX8 : Hid ((W7.setCell ⟨g, posL price l1 * 4 + 2, none⟩ (.int .i64 (b price + more))).drew.heap[xb]? = some (.cells #[.slice (some ⟨g, 0, none⟩) l1.length cap5, .int .i64 0, .int .i64 mb, .int .i64 ms] 27 (0, 0))) := blk_out (S := fun j => j = g) HX7.out (out_drew (out_set W7 ⟨g, posL price l1 * 4 + 2, none⟩ (.int .i64 (b price + more)))) hng'
      have HR8 : Hid ((W7.setCell ⟨g, posL price l1 * 4 + 2, none⟩ (.int .i64 (b price + more))).drew.ownsRow 0 67 4 (.slice (some ⟨g, 0, none⟩) l1.length cap5) l1.length (lvV (l1.set (posL price l1) ⟨price, (b price + more), (s price)⟩))) := own_set HR7.out (by simp) (by rw [lvV_setB _ hlt, HPR.out.1, HPR.out.2.2])
      have HO8 : Hid (Out (IndT xb (.slice a l.length cap)) w (W7.setCell ⟨g, posL price l1 * 4 + 2, none⟩ (.int .i64 (b price + more))).drew) := out_drew (HO7.out.trans (out_set W7 ⟨g, posL price l1 * 4 + 2, none⟩ _) (fun k hk => by rw [show k = g from hk]; exact HW6.out g (Or.inr rfl)))
      generalize (W7.setCell ⟨g, posL price l1 * 4 + 2, none⟩ (.int .i64 (b price + more))).drew = W8 at e1 e2 e3 e4 HX8 HR8 HO8 ⊢
      clear c1 c2 c3 f2 f3 x0 o1 HR7 HX7 HO7
      obtain ⟨bn, hbn⟩ : ∃ bn, bn = (b price + more) := ⟨_, rfl⟩
      obtain ⟨sn, hsn⟩ : ∃ sn, sn = (s price) := ⟨_, rfl⟩
      have HBN : Hid (bn = (b price + more) ∧ sn = (s price)) := ⟨hbn, hsn⟩
      rw [← hbn] at e3
      rw [← hsn] at e4
      clear hbn hsn hb1 hs1
      have hle := lotsEq
      have hL : ∀ x : Lv, (l1.set (posL price l1) x).length = l1.length := fun x => List.length_set
      by_cases hz : bn = 0 ∧ sn = 0
      · obtain ⟨hz1, hz2⟩ := hz
        rw [hz1] at e3
        rw [hz2] at e4
        have HZ : Hid (bn = 0 ∧ sn = 0) := ⟨hz1, hz2⟩
        clear hz1 hz2
        go_wp2_with fail
        have hd := lvDel g cap5 (posL price l1) (l1.set (posL price l1) ⟨price, b price + more, s price⟩) W8 (by rw [hL]; exact HR8.out) (by rw [hL]; omega) (by rw [hL]; exact hlt)
        rw [hL] at hd
        refine hd.mono ?_
        rintro e w9 ⟨rfl, hrow9, hout9⟩
        have x9 := blk_out HX8.out hout9 hng'
        have c9 := blk_cell (j := 0) x9 rfl
        have f9 := blk_free (j := 0) x9
        have HR9 : Hid (w9.ownsRow 0 67 4 (.slice (some ⟨g, 0, none⟩) (l1.length - 1) cap5) (l1.length - 1) (lvV ((l1.set (posL price l1) ⟨price, b price + more, s price⟩).eraseIdx (posL price l1)))) := hrow9
        have HX9 : Hid (w9.heap[xb]? = some (.cells #[.slice (some ⟨g, 0, none⟩) l1.length cap5, .int .i64 0, .int .i64 mb, .int .i64 ms] 27 (0, 0))) := x9
        have HO9 : Hid (Out (IndT xb (.slice a l.length cap)) w w9) := HO8.out.trans hout9 (fun k hk => by rw [show k = g from hk]; exact HW6.out g (Or.inr rfl))
        clear hd hrow9 hout9 x9 e1 e2 e3 e4 HR8 HX8 HO8
        go_wp2_with fail
        first | go_end0 | refine bodyPost_ret (results_none rfl _ _ _) rfl ?_
        refine ⟨rfl, .slice (some ⟨g, 0, none⟩) (l1.length - 1) cap5, ⟨blk_set _ HX9.out, (l1.set (posL price l1) ⟨price, b price + more, s price⟩).eraseIdx (posL price l1), ?_, ?_, ?_⟩, out_setIn HO9.out (Or.inl rfl), fun k hk => HW6.out k hk⟩
        · have hl9 : ((l1.set (posL price l1) ⟨price, b price + more, s price⟩).eraseIdx (posL price l1)).length = l1.length - 1 := by rw [List.length_eraseIdx, hL, if_pos hlt]
          rw [hl9]
          exact owns_out HR9.out (out_set w9 ⟨xb, 0, none⟩ _) (fun k hk e => hng (by have h1 : some g = some k := hk; injection h1 with h1; rw [h1]; exact e))
        · rw [show l1.set (posL price l1) ⟨price, b price + more, s price⟩ = l1.set (posL price l1) ⟨price, 0, 0⟩ by rw [← HBN.out.1, HZ.out.1, ← HBN.out.2, HZ.out.2]]
          have h := HGON.out
          rw [show upI b price 0 = upI b price (b price + more) by rw [← HBN.out.1, HZ.out.1], show upI s price 0 = s by rw [show (0 : Int) = s price by rw [← HBN.out.2, HZ.out.2], upI_self]] at h
          exact h
        · rw [List.length_eraseIdx, hL, if_pos hlt]; omega
      · have HZ : Hid (¬ (bn = 0 ∧ sn = 0)) := hz
        have hzb : ((bn == 0) && (sn == 0)) = false := by
          cases hx : ((bn == 0) && (sn == 0)) with
          | false => rfl
          | true => rw [Bool.and_eq_true, beq_iff_eq, beq_iff_eq] at hx; exact absurd hx hz
        have hle2 := fun w => lotsEq bn sn w
        rw [hzb] at hle2
        clear hz hle hzb
        go_wp2_with fail
        first | go_end0 | refine bodyPost_ret (results_none rfl _ _ _) rfl ?_
        refine ⟨rfl, .slice (some ⟨g, 0, none⟩) l1.length cap5, ⟨HX8.out, l1.set (posL price l1) ⟨price, b price + more, s price⟩, ?_, ?_, ?_⟩, HO8.out, fun k hk => HW6.out k hk⟩
        · rw [hL]; exact HR8.out
        · have h := (HINV.out (b price + more) (s price) (by rw [← HBN.out.1, ← HBN.out.2]; exact Decidable.not_and_iff_or_not.1 HZ.out))
          rw [upI_self s price] at h
          exact h
        · rw [hL]; omega
    · go_wp2_with fail
      go_region
      have e1 : (W7.setCell ⟨g, posL price l1 * 4 + 3, none⟩ (.int .i64 (s price + more))).drew.cell? ⟨xb, 0, none⟩ = some (.slice (some ⟨g, 0, none⟩) l1.length cap5) := (World.cell?_setCell_other W7 ⟨g, posL price l1 * 4 + 3, none⟩ ⟨xb, 0, none⟩ _ (fun e => hng (congrArg Addr.block e))).trans x0
      have e2 : (W7.setCell ⟨g, posL price l1 * 4 + 3, none⟩ (.int .i64 (s price + more))).drew.cell? ⟨g, posL price l1 * 4 + 1, none⟩ = some (.int .i64 0) := (World.cell?_setCell_other W7 ⟨g, posL price l1 * 4 + 3, none⟩ ⟨g, posL price l1 * 4 + 1, none⟩ _ (fun e => by have := congrArg Addr.off e; simp at this)).trans c1
      have e3 : (W7.setCell ⟨g, posL price l1 * 4 + 3, none⟩ (.int .i64 (s price + more))).drew.cell? ⟨g, posL price l1 * 4 + 3, none⟩ = some (.int .i64 (s price + more)) := World.cell?_setCell_same W7 ⟨g, posL price l1 * 4 + 3, none⟩ _ c3
      have e4 : (W7.setCell ⟨g, posL price l1 * 4 + 3, none⟩ (.int .i64 (s price + more))).drew.cell? ⟨g, posL price l1 * 4 + 2, none⟩ = some (.int .i64 (b price)) := (World.cell?_setCell_other W7 ⟨g, posL price l1 * 4 + 3, none⟩ ⟨g, posL price l1 * 4 + 2, none⟩ _ (fun e => by have := congrArg Addr.off e; simp at this)).trans c2
      have HX8 : Hid ((W7.setCell ⟨g, posL price l1 * 4 + 3, none⟩ (.int .i64 (s price + more))).drew.heap[xb]? = some (.cells #[.slice (some ⟨g, 0, none⟩) l1.length cap5, .int .i64 0, .int .i64 mb, .int .i64 ms] 27 (0, 0))) := blk_out (S := fun j => j = g) HX7.out (out_drew (out_set W7 ⟨g, posL price l1 * 4 + 3, none⟩ (.int .i64 (s price + more)))) hng'
      have HR8 : Hid ((W7.setCell ⟨g, posL price l1 * 4 + 3, none⟩ (.int .i64 (s price + more))).drew.ownsRow 0 67 4 (.slice (some ⟨g, 0, none⟩) l1.length cap5) l1.length (lvV (l1.set (posL price l1) ⟨price, (b price), (s price + more)⟩))) := own_set HR7.out (by simp) (by rw [lvV_setS _ hlt, HPR.out.1, HPR.out.2.1])
      have HO8 : Hid (Out (IndT xb (.slice a l.length cap)) w (W7.setCell ⟨g, posL price l1 * 4 + 3, none⟩ (.int .i64 (s price + more))).drew) := out_drew (HO7.out.trans (out_set W7 ⟨g, posL price l1 * 4 + 3, none⟩ _) (fun k hk => by rw [show k = g from hk]; exact HW6.out g (Or.inr rfl)))
      generalize (W7.setCell ⟨g, posL price l1 * 4 + 3, none⟩ (.int .i64 (s price + more))).drew = W8 at e1 e2 e3 e4 HX8 HR8 HO8 ⊢
      clear c1 c2 c3 f2 f3 x0 o1 HR7 HX7 HO7
      obtain ⟨bn, hbn⟩ : ∃ bn, bn = (s price + more) := ⟨_, rfl⟩
      obtain ⟨sn, hsn⟩ : ∃ sn, sn = (b price) := ⟨_, rfl⟩
      have HBN : Hid (bn = (s price + more) ∧ sn = (b price)) := ⟨hbn, hsn⟩
      rw [← hbn] at e3
      rw [← hsn] at e4
      clear hbn hsn hb1 hs1
      have hle := lotsEq
      have hL : ∀ x : Lv, (l1.set (posL price l1) x).length = l1.length := fun x => List.length_set
      by_cases hz : bn = 0 ∧ sn = 0
      · obtain ⟨hz1, hz2⟩ := hz
        rw [hz1] at e3
        rw [hz2] at e4
        have HZ : Hid (bn = 0 ∧ sn = 0) := ⟨hz1, hz2⟩
        clear hz1 hz2
        go_wp2_with fail
        have hd := lvDel g cap5 (posL price l1) (l1.set (posL price l1) ⟨price, b price, s price + more⟩) W8 (by rw [hL]; exact HR8.out) (by rw [hL]; omega) (by rw [hL]; exact hlt)
        rw [hL] at hd
        refine hd.mono ?_
        rintro e w9 ⟨rfl, hrow9, hout9⟩
        have x9 := blk_out HX8.out hout9 hng'
        have c9 := blk_cell (j := 0) x9 rfl
        have f9 := blk_free (j := 0) x9
        have HR9 : Hid (w9.ownsRow 0 67 4 (.slice (some ⟨g, 0, none⟩) (l1.length - 1) cap5) (l1.length - 1) (lvV ((l1.set (posL price l1) ⟨price, b price, s price + more⟩).eraseIdx (posL price l1)))) := hrow9
        have HX9 : Hid (w9.heap[xb]? = some (.cells #[.slice (some ⟨g, 0, none⟩) l1.length cap5, .int .i64 0, .int .i64 mb, .int .i64 ms] 27 (0, 0))) := x9
        have HO9 : Hid (Out (IndT xb (.slice a l.length cap)) w w9) := HO8.out.trans hout9 (fun k hk => by rw [show k = g from hk]; exact HW6.out g (Or.inr rfl))
        clear hd hrow9 hout9 x9 e1 e2 e3 e4 HR8 HX8 HO8
        go_wp2_with fail
        first | go_end0 | refine bodyPost_ret (results_none rfl _ _ _) rfl ?_
        refine ⟨rfl, .slice (some ⟨g, 0, none⟩) (l1.length - 1) cap5, ⟨blk_set _ HX9.out, (l1.set (posL price l1) ⟨price, b price, s price + more⟩).eraseIdx (posL price l1), ?_, ?_, ?_⟩, out_setIn HO9.out (Or.inl rfl), fun k hk => HW6.out k hk⟩
        · have hl9 : ((l1.set (posL price l1) ⟨price, b price, s price + more⟩).eraseIdx (posL price l1)).length = l1.length - 1 := by rw [List.length_eraseIdx, hL, if_pos hlt]
          rw [hl9]
          exact owns_out HR9.out (out_set w9 ⟨xb, 0, none⟩ _) (fun k hk e => hng (by have h1 : some g = some k := hk; injection h1 with h1; rw [h1]; exact e))
        · rw [show l1.set (posL price l1) ⟨price, b price, s price + more⟩ = l1.set (posL price l1) ⟨price, 0, 0⟩ by rw [← HBN.out.1, HZ.out.1, ← HBN.out.2, HZ.out.2]]
          have h := HGON.out
          rw [show upI s price 0 = upI s price (s price + more) by rw [← HBN.out.1, HZ.out.1], show upI b price 0 = b by rw [show (0 : Int) = b price by rw [← HBN.out.2, HZ.out.2], upI_self]] at h
          exact h
        · rw [List.length_eraseIdx, hL, if_pos hlt]; omega
      · have HZ : Hid (¬ (bn = 0 ∧ sn = 0)) := hz
        have hzb : ((bn == 0) && (sn == 0)) = false := by
          cases hx : ((bn == 0) && (sn == 0)) with
          | false => rfl
          | true => rw [Bool.and_eq_true, beq_iff_eq, beq_iff_eq] at hx; exact absurd hx hz
        have hle2 := fun w => lotsEq sn bn w
        rw [Bool.and_comm, hzb] at hle2
        clear hz hle hzb
        go_wp2_with fail
        first | go_end0 | refine bodyPost_ret (results_none rfl _ _ _) rfl ?_
        refine ⟨rfl, .slice (some ⟨g, 0, none⟩) l1.length cap5, ⟨HX8.out, l1.set (posL price l1) ⟨price, b price, s price + more⟩, ?_, ?_, ?_⟩, HO8.out, fun k hk => HW6.out k hk⟩
        · rw [hL]; exact HR8.out
        · have h := (HINV.out (b price) (s price + more) (by rw [← HBN.out.1, ← HBN.out.2]; exact (Decidable.not_and_iff_or_not.1 HZ.out).symm))
          rw [upI_self b price] at h
          exact h
        · rw [hL]; omega
end Go.Proofs.YtkfmljokenclaabDoor
