/-
  What the document's Add (4.1) does, over this translation. Conditions stand in each theorem: where the Book lies, that there are at most 100 orders.
-/
import Derived.Test.YtcoijhofliilmabGreatDoorGG
import Derived.Test.YtcoijhofliilmabGreatDoorGH
import Derived.Test.YtcoijhofliilmabGreatDoorGJ
import Derived.Test.YtcoijhofliilmabGreatDoorGA
import Derived.Maps.AppendAt
import Derived.Deep.Onto
namespace Go.Proofs.YtcoijhofliilmabGreatDoor
open Go.RowKit


theorem base_le {w W : World} {base : Nat} (h : Below w.heap.size w W) (hb : base ≤ w.heap.size) : base ≤ W.heap.size := Nat.le_trans hb h.size
theorem bel_grown {w W w1 : World} {b : Nat} (h : Below w.heap.size w W) (hg : W.grownBy w1 (some b)) (hb : w.heap.size ≤ b) : Below w.heap.size w w1 := h.grown hg h.size (fun k hk => by injection hk with hk; omega)
theorem bel_at {w W : World} {b g : Nat} (h : Below w.heap.size w W) (hg : g = b ∨ g = W.heap.size) (hb : w.heap.size ≤ b) : w.heap.size ≤ g := by
  have := h.size
  rcases hg with rfl | rfl
  · exact hb
  · exact this
theorem bk_more {w w1 w2 : World} (h : Below w.heap.size w w1) (h1 : Below w1.heap.size w1 w2) : Below w.heap.size w w2 := h.trans (h1.mono h.size)
theorem bk_done {w w2 wB : World} {base bb g n cap : Nat} {v0 : Value} {l l' : List Ord} {xs : List Value} (hA : BookIs w2 base bb v0 l) (hw : Below w.heap.size w w2) (hB : Below w2.heap.size w2 wB)
    (ho : wB.ownsRow base 40 5 (.slice (some ⟨g, 0, none⟩) n cap) n xs) (hg : w2.heap.size ≤ g) (hn : n = l'.length) (hx : xs = oV l') :
    BookIs (wB.setCell ⟨bb, 0, none⟩ (.slice (some ⟨g, 0, none⟩) n cap)) base bb (.slice (some ⟨g, 0, none⟩) n cap) l' ∧ Out (· = bb) w (wB.setCell ⟨bb, 0, none⟩ (.slice (some ⟨g, 0, none⟩) n cap)) := by
  subst hn hx
  have lb := lt_of_block hA.box
  have hbox := (hB.block _ lb).trans hA.box
  have hne : (Value.slice (some ⟨g, 0, none⟩) l'.length cap).ownBlock ≠ some bb := fun e => by
    have e' : g = bb := by simpa [Value.ownBlock] using e
    omega
  refine ⟨⟨(heap_setCell_same wB bb 0 _ _ _ hbox).trans rfl, ownsRow_setCell_other ho hne _⟩, ?_⟩
  have h1 : Out (· = bb) wB (wB.setCell ⟨bb, 0, none⟩ (.slice (some ⟨g, 0, none⟩) l'.length cap)) := ⟨rfl, rfl, rfl, by simp, fun j _ hj => Below.heap_setCell _ _ _ _ (fun e => hj e)⟩
  exact (Out.of_below (hw.trans (hB.mono hw.size)) (Nat.le_refl _)).trans h1 (Went.refl _ _)


set_option maxRecDepth 100000 in
set_option maxHeartbeats 4000000 in
theorem bkAdd (base bb : Nat) (v : Value) (l : List Ord) (o : Ord) (w : World) (h : BookIs w base bb v l) (hl : l.length ≤ 100) (hbs : base ≤ w.heap.size) :
    Calls Tryz.prog 19 #[.pointer (some ⟨bb, 0, none⟩), o.agg] w
      fun e w' => e = .returned (.int .i64 (addN o l)) ∧ ∃ v', BookIs w' base bb v' (addL o l) ∧ Out (· = bb) w w' := by
  have HA : Hid (BookIs w base bb v l) := h
  have STAY : Hid (∀ w', Below w.heap.size w w' → addN o l ≠ 0 → ∃ v', BookIs w' base bb v' (addL o l) ∧ Out (· = bb) w w') := fun w' hb hn => by
    unfold addL; rw [if_neg hn]
    exact ⟨v, HA.out.below hb (Nat.le_refl _), Out.of_below hb (Nat.le_refl _)⟩
  clear h
  unfold Ord.agg
  go_enter Tryz.func19, Tryz.ntmps19
  go_wp2_with fail
  refine (bkIn o.side 1 2 _).mono ?_
  rintro e w1 ⟨rfl, rfl⟩
  cases hs : (decide (1 ≤ o.side) && decide (o.side ≤ 2)) with
  | false =>
    have HS : Hid ((decide (1 ≤ o.side) && decide (o.side ≤ 2)) = false) := hs
    clear hs
    go_wp2_with fail
    go_ret
    have e1 := addN_arg (l := l) (Or.inl HS.out)
    exact ⟨by rw [e1]; rfl, STAY.out _ ((Below.refl _ _).alloc (Nat.le_refl _) _) (by rw [e1]; decide)⟩
  | true =>
    have HS : Hid ((decide (1 ≤ o.side) && decide (o.side ≤ 2)) = true) := hs
    clear hs
    by_cases hid : o.id < 1
    · have hib : decide (o.id < 1) = true := decide_eq_true hid
      go_wp2_with fail
      go_ret
      have e1 := addN_arg (l := l) (Or.inr hid)
      exact ⟨by rw [e1]; rfl, STAY.out _ ((Below.refl _ _).alloc (Nat.le_refl _) _) (by rw [e1]; decide)⟩
    · go_upto_if 16 with fail
      go_cut [17] (fun _ wc => Below w.heap.size w wc ∧ wc.heap[w.heap.size]? = some (.cells #[.int .i64 (lieO o).id, .int .i64 (lieO o).side, .int .i64 (lieO o).kind, .int .i64 (lieO o).price, .int .i64 (lieO o).qty] 40 (0, 0)))
      case first =>
        by_cases hk : o.kind = 2
        · have hkb : (o.kind == 2) = true := beq_iff_eq.2 hk
          have HK : Hid (lieO o = { o with price := 1 }) := by show lieO o = _; unfold lieO; rw [if_pos hk]
          clear hk
          go_wp2_with fail
          go_meet
          exact ⟨(Below.refl _ _).alloc (Nat.le_refl _) _, by rw [HK.out]; exact heap_alloc_new w _⟩
        · have hkb : (o.kind == 2) = false := beq_eq_false_iff_ne.2 hk
          have HK : Hid (lieO o = o) := by show lieO o = _; unfold lieO; rw [if_neg hk]
          clear hk
          go_wp2_with fail
          go_meet
          exact ⟨(Below.refl _ _).alloc (Nat.le_refl _) _, by rw [HK.out]; exact heap_alloc_new w _⟩
      case rest =>
        obtain ⟨hb, hx⟩ := hcut
        have HI : Hid ((lieO o).id = o.id) := lieO_id o
        have HN : Hid (rightO (lieO o).price (lieO o).qty = false → addN o l = 2) := fun h2 => addN_range HS.out (by omega) h2
        have HR : Hid (rightO (lieO o).price (lieO o).qty = true → addN o l = if 0 ≤ idxO o.id l then 9 else if 100 ≤ l.length then 12 else 0) := fun h2 => addN_rest HS.out (by omega) h2
        have HL : Hid (addN o l = 0 → addL o l = l ++ [lieO o]) := fun h2 => by unfold addL; rw [if_pos h2]
        generalize lieO o = p at hx HI HN HR HL
        have HB : Hid (Below w.heap.size w wc) := hb
        have HX : Hid _ := hx
        have z0 := ord_cell (j := 0) hx rfl
        have z1 := ord_cell (j := 1) hx rfl
        have z2 := ord_cell (j := 2) hx rfl
        have z3 := ord_cell (j := 3) hx rfl
        have z4 := ord_cell (j := 4) hx rfl
        clear hx hb hid
        go_wp2_with fail
        refine (bkRight p.price p.qty _).mono ?_
        rintro e w1 ⟨rfl, hw⟩
        subst hw
        cases hr : rightO p.price p.qty with
        | false =>
          have e1 := HN.out hr
          have E1 : Hid (addN o l = 2) := e1
          clear hr e1
          go_wp2_with fail
          go_ret
          exact ⟨by rw [E1.out]; rfl, STAY.out _ HB.out (by rw [E1.out]; decide)⟩
        | true =>
          have E1 : Hid _ := HR.out hr
          clear hr
          go_wp2_with fail
          refine (bkIndex base bb v l p.id _ (HA.out.below HB.out (Nat.le_refl _)) (by omega)).mono ?_
          rintro e w2 ⟨rfl, hb2⟩
          have HX2 : Hid _ := (hb2.block _ (lt_of_block HX.out)).trans HX.out
          have HB2 : Hid (Below w.heap.size w w2) := HB.out.trans (hb2.mono HB.out.size)
          rw [HI.out]
          have z0 := ord_cell (j := 0) HX2.out rfl
          have z1 := ord_cell (j := 1) HX2.out rfl
          have z2 := ord_cell (j := 2) HX2.out rfl
          have z3 := ord_cell (j := 3) HX2.out rfl
          have z4 := ord_cell (j := 4) HX2.out rfl
          clear hb2 HB HX
          by_cases hi : 0 ≤ idxO o.id l
          · have E2 : Hid (addN o l = 9) := E1.out.trans (if_pos hi)
            generalize idxO o.id l = q at hi
            go_wp2_with fail
            go_ret
            exact ⟨by rw [E2.out]; rfl, STAY.out _ HB2.out (by rw [E2.out]; decide)⟩
          · have E2 : Hid _ := E1.out.trans (if_neg hi)
            clear E1
            generalize idxO o.id l = q at hi
            have hA2 := HA.out.below HB2.out (Nat.le_refl _)
            obtain ⟨ao, cap, rfl, _, _⟩ := bk_shape hA2.all
            have c0 : w2.cell? ⟨bb, 0, none⟩ = some (.slice ao l.length cap) := cell_of_one hA2.box
            have f0 : w2.frozen? ⟨bb, 0, none⟩ = false := ord_free (j := 0) hA2.box
            have lb : bb < w2.heap.size := lt_of_block hA2.box
            have lx : w.heap.size < w2.heap.size := lt_of_block HX2.out
            have HA2 : Hid _ := hA2
            have hbs2 : base ≤ w2.heap.size := Nat.le_trans hbs HB2.out.size
            clear hA2
            by_cases hf : 100 ≤ l.length
            · have E3 : Hid (addN o l = 12) := E2.out.trans (if_pos hf)
              have hff : (100 : Int) ≤ (l.length : Int) := by omega
              go_wp2_with fail
              go_ret
              exact ⟨by rw [E3.out]; rfl, STAY.out _ HB2.out (by rw [E3.out]; decide)⟩
            · have E3 : Hid (addN o l = 0) := E2.out.trans (if_neg hf)
              have hff : (l.length : Int) < 100 := by omega
              obtain ⟨i0, hi0, hz0, hz1, hz2⟩ := info_parts Tryz.infoOrd
              go_upto_region 11 with fail
              go_cut [44] (fun _ wc => ∃ v', BookIs wc base bb v' (l ++ [p]) ∧ Out (· = bb) w wc)
              case first =>
                have q63 : 0 + l.length ≤ maxLen := by unfold maxLen; omega
                have q64 : l.length + 1 ≤ maxLen := by unfold maxLen; omega
                go_region_law (first | (refine step_append_all _ (by rfl) (.tmp 36) (.tmp 40) 22 (by rfl) base 40 i0 _ 5 40 Tryz.underlying22 hi0 hz0 hz1 hz2 (by rfl) (by omega) _ 0 0 [] (by rfl) (by first | exact own_empty (heap_alloc_new _ _) hbs2 | exact own_empty (bk_old w2 _ _) hbs2 | exact own_empty (bk_last w2 _ _) (Nat.le_succ_of_le hbs2)) ao l.length cap (oV l) (by rfl) (oV_length l) (Lies.of_row HA2.out.all (by (repeat' first | assumption | exact Below.refl _ _ | exact Nat.le_refl _ | refine Below.drew ?_ | refine Below.alloc ?_ ?_ _ | (simp; done) | (simp; omega)))) (oV_one l) q63 (by omega) (base_le (by (repeat' first | assumption | exact Below.refl _ _ | exact Nat.le_refl _ | refine Below.drew ?_ | refine Below.alloc ?_ ?_ _ | (simp; done) | (simp; omega))) hbs2) ?_; intro gA cA wA hoA hgA hatA hltA; have bA : Below w2.heap.size w2 wA := bel_grown (by (repeat' first | assumption | exact Below.refl _ _ | exact Nat.le_refl _ | refine Below.drew ?_ | refine Below.alloc ?_ ?_ _ | (simp; done) | (simp; omega))) hgA (by first | exact Nat.le_refl _ | exact Nat.le_succ _); have kA : w2.heap.size ≤ gA := bel_at (by (repeat' first | assumption | exact Below.refl _ _ | exact Nat.le_refl _ | refine Below.drew ?_ | refine Below.alloc ?_ ?_ _ | (simp; done) | (simp; omega))) hatA (by first | exact Nat.le_refl _ | exact Nat.le_succ _); have lA : w2.heap.size ≤ wA.heap.size := bA.size; have xA := (bA.block _ lx).trans HX2.out; have yA0 := ord_cell (j := 0) xA rfl; have yA1 := ord_cell (j := 1) xA rfl; have yA2 := ord_cell (j := 2) xA rfl; have yA3 := ord_cell (j := 3) xA rfl; have yA4 := ord_cell (j := 4) xA rfl; rw [Nat.zero_add, List.nil_append] at hoA; have OA : Hid _ := hoA; have BA : Hid _ := bA; have GA : Hid _ := hgA; clear xA hoA hatA bA hgA) | (refine step_append_all _ (by rfl) (.tmp 41) (.tmp 43) 22 (by rfl) base 40 i0 _ 5 40 Tryz.underlying22 hi0 hz0 hz1 hz2 (by rfl) (by omega) _ _ _ _ (by rfl) (bk_below (B := wA.heap.size) OA.out (by (repeat' first | assumption | exact Below.refl _ _ | exact Nat.le_refl _ | refine Below.drew ?_ | refine Below.alloc ?_ ?_ _ | (simp; done) | (simp; omega))) (Nat.le_refl _)) _ 1 1 p.vals (by rfl) (by rfl) (by first | exact Lies.of_one (heap_alloc_new _ _) | exact Lies.of_one ((GA.out.block _ (by simp <;> omega) (by simp)).trans (bk_old w2 _ _)) | exact Lies.of_one ((GA.out.block _ (by simp <;> omega) (by simp)).trans (bk_last w2 _ _))) (by simp [Ord.vals, Value.oneCell']) q64 (by omega) (base_le (bk_more BA.out (by (repeat' first | assumption | exact Below.refl _ _ | exact Nat.le_refl _ | refine Below.drew ?_ | refine Below.alloc ?_ ?_ _ | (simp; done) | (simp; omega)))) hbs2) ?_; intro gB cB wB hoB hgB hatB hltB; have bB : Below w2.heap.size w2 wB := bel_grown (bk_more BA.out (by (repeat' first | assumption | exact Below.refl _ _ | exact Nat.le_refl _ | refine Below.drew ?_ | refine Below.alloc ?_ ?_ _ | (simp; done) | (simp; omega)))) hgB kA; have kB : w2.heap.size ≤ gB := bel_at (bk_more BA.out (by (repeat' first | assumption | exact Below.refl _ _ | exact Nat.le_refl _ | refine Below.drew ?_ | refine Below.alloc ?_ ?_ _ | (simp; done) | (simp; omega)))) hatB kA; have xB := (bB.block _ lb).trans HA2.out.box; have yB0 := cell_of_one xB; have yB1 := ord_free (j := 0) xB; have lB : bb < wB.heap.size := Nat.lt_of_lt_of_le lb bB.size; have OB : Hid _ := hoB; have BB : Hid _ := bB; clear xB hoB hatB hltB hgB bB))
                all_goals go_wp2_with fail
                all_goals go_meet
                all_goals exact ⟨_, bk_done HA2.out HB2.out BB.out OB.out kB (by simp) (by rw [oV_append]; rfl)⟩
              case rest =>
                obtain ⟨v', h1, h2⟩ := hcut
                have H1 : Hid _ := h1
                have H2 : Hid _ := h2
                clear h1 h2
                go_wp2_with fail
                go_ret
                exact ⟨by rw [E3.out]; rfl, v', by rw [HL.out E3.out]; exact H1.out, H2.out⟩
end Go.Proofs.YtcoijhofliilmabGreatDoor

/-
  What the document's Cancel (4.1) does, over this translation. Conditions stand in each theorem: where the Book lies, that there are at most 100 orders.
-/
namespace Go.Proofs.YtcoijhofliilmabGreatDoor
open Go.RowKit

theorem own_new {B g n c : Nat} (h : B ≤ g) : ∀ j, (Value.slice (some ⟨g, 0, none⟩) n c).ownBlock = some j → B ≤ j := fun j hj => by
  have e : g = j := by simpa [Value.ownBlock] using hj
  omega
theorem BookIs.set_far {w : World} {base bb b j : Nat} {v u : Value} {l : List Ord} (h : BookIs w base bb v l) (h1 : b ≠ bb) (h2 : v.ownBlock ≠ some b) : BookIs (w.setCell ⟨b, j, none⟩ u) base bb v l :=
  ⟨(Below.heap_setCell _ _ _ _ (fun e => h1 e.symm)).trans h.box, ownsRow_setCell_other (a := ⟨b, j, none⟩) h.all h2 u⟩
theorem bk_outset {S : Nat → Prop} {w w1 : World} {b j : Nat} {u : Value} (h : Out S w w1) (hb : w.heap.size ≤ b) : Out S w (w1.setCell ⟨b, j, none⟩ u) :=
  ⟨h.os, h.tape, h.output, by simpa using h.size, fun k hk hS => (Below.heap_setCell _ _ _ _ (fun e => by have : k = b := e; omega)).trans (h.block k hk hS)⟩
theorem set5 {w w1 : World} {B b j0 j1 j2 j3 j4 : Nat} {u0 u1 u2 u3 u4 : Value} (h : Below B w w1) (hb : B ≤ b) : Below B w (((((w1.setCell ⟨b, j0, none⟩ u0).setCell ⟨b, j1, none⟩ u1).setCell ⟨b, j2, none⟩ u2).setCell ⟨b, j3, none⟩ u3).setCell ⟨b, j4, none⟩ u4) :=
  ((((h.setCell hb _).setCell hb _).setCell hb _).setCell hb _).setCell hb _
theorem Lies.take {w W : World} {base g cap k : Nat} {l : List Ord} (h : w.ownsRow base 40 5 (.slice (some ⟨g, 0, none⟩) l.length cap) l.length (oV l)) (hb : Below w.heap.size w W) : Lies W (some ⟨g, 0, none⟩) k (oV (l.take k)) :=
  Or.inr ⟨_, rfl, fun j u hu => bk_news h hb j u (by
    have hj := (List.getElem?_eq_some_iff.1 hu).1
    rw [show l = l.take k ++ l.drop k from (List.take_append_drop k l).symm, oV_append, List.getElem?_append_left hj]; exact hu)⟩
theorem Lies.drop {w W : World} {base g cap k : Nat} {l : List Ord} (h : w.ownsRow base 40 5 (.slice (some ⟨g, 0, none⟩) l.length cap) l.length (oV l)) (hb : Below w.heap.size w W) : Lies W (some ⟨g, k * 5, none⟩) (l.length - k) (oV (l.drop k)) := by
  by_cases hk : k < l.length
  · refine Or.inr ⟨_, rfl, fun j u hu => ?_⟩
    have h1 := bk_news h hb (k * 5 + j) u (by
      have e : (oV (l.take k)).length = k * 5 := (oV_length _).trans (by rw [List.length_take, Nat.min_eq_left (by omega)])
      rw [show l = l.take k ++ l.drop k from (List.take_append_drop k l).symm, oV_append, List.getElem?_append_right (by omega), e, Nat.add_sub_cancel_left]; exact hu)
    rw [Addr.add_lit] at h1 ⊢
    rw [← h1]; simp
  · refine Or.inl ⟨by omega, ?_⟩
    rw [List.drop_eq_nil_of_le (by omega)]; rfl

set_option maxRecDepth 100000 in
set_option maxHeartbeats 4000000 in
theorem bkCancelN (base bb : Nat) (v : Value) (l : List Ord) (id : Int) (w : World) (h : BookIs w base bb v l) (hl : l.length ≤ 100) (hbs : base ≤ w.heap.size) :
    Calls Tryz.prog 51 #[.pointer (some ⟨bb, 0, none⟩), .int .i64 id] w
      fun e w' => Out (· = bb) w w' ∧ ∃ v', ((idxO id l = -1 ∧ e = .returned (.tuple #[Ord.none_.agg, .int .i64 7]) ∧ BookIs w' base bb v' l) ∨ ∃ k : Nat, k < l.length ∧ idxO id l = k ∧ (oAt l k).id = id ∧ e = .returned (.tuple #[(oAt l k).agg, .int .i64 0]) ∧ BookIs w' base bb v' (goneL k l) ∧ ∀ j, v'.ownBlock = some j → w.heap.size ≤ j) := by
  have HA : Hid (BookIs w base bb v l) := h
  clear h
  go_enter Tryz.func51, Tryz.ntmps51
  go_wp2_with fail
  refine (bkIndex base bb v l id _ (HA.out.below ((Below.refl _ _).alloc (Nat.le_refl _) _) (Nat.le_refl _)) (by omega)).mono ?_
  rintro e w1 ⟨rfl, hb1⟩
  have hx := ord_cells hb1 (by simp)
  have HX : Hid _ := hx
  have HB1 : Hid (Below w.heap.size w w1) := ((Below.refl _ _).alloc (Nat.le_refl _) _).trans (hb1.mono (by simp))
  have lx : w.heap.size < w1.heap.size := lt_of_block hx
  have z0 := ord_cell (j := 0) hx rfl
  have z1 := ord_cell (j := 1) hx rfl
  have z2 := ord_cell (j := 2) hx rfl
  have z3 := ord_cell (j := 3) hx rfl
  have z4 := ord_cell (j := 4) hx rfl
  have f0 := ord_free (j := 0) hx
  have f1 := ord_free (j := 1) hx
  have f2 := ord_free (j := 2) hx
  have f3 := ord_free (j := 3) hx
  have f4 := ord_free (j := 4) hx
  clear hb1 hx
  rcases idxF_in id l 0 with hn | ⟨k, hk, hi, hid⟩
  · have HN : Hid (idxO id l = -1) := hn
    rw [show idxO id l = -1 from hn]
    clear hn
    go_wp2_with fail
    refine bodyPost_ret (by simp [results, Tryz.results51, go_sem, z0, z1, z2, z3, z4]; try rfl) rfl ?_
    exact ⟨Out.of_below (set5 HB1.out (Nat.le_refl _)) (Nat.le_refl _), v, Or.inl ⟨HN.out, rfl, HA.out.below (set5 HB1.out (Nat.le_refl _)) (Nat.le_refl _)⟩⟩
  · rw [Nat.zero_add] at hi
    have HN : Hid (idxO id l = k) := hi
    have HID : Hid ((oAt l k).id = id) := hid
    rw [show idxO id l = k from hi]
    clear hi hid
    have hA1 := HA.out.below HB1.out (Nat.le_refl _)
    obtain ⟨g, cap, rfl, d0, d1, d2, d3, d4⟩ := row_order hA1.all hk
    have hcc : l.length ≤ cap ∧ cap ≤ maxLen := by
      obtain ⟨_, _, hv, a, b⟩ := bk_shape hA1.all
      simp only [Value.slice.injEq, true_and] at hv
      obtain ⟨_, rfl⟩ := hv
      exact ⟨a, b⟩
    obtain ⟨hcap, hcap2⟩ := hcc
    have c0 : w1.cell? ⟨bb, 0, none⟩ = some (.slice (some ⟨g, 0, none⟩) l.length cap) := cell_of_one hA1.box
    have lb : bb < w1.heap.size := lt_of_block hA1.box
    have q1 : (0 : Int) ≤ (k : Int) := by omega
    have q2 : (k : Int) < l.length := by omega
    have HA1 : Hid _ := hA1
    have HC : Hid (l.length ≤ cap ∧ cap ≤ maxLen) := ⟨hcap, hcap2⟩
    clear hA1 hcap2
    obtain ⟨i0, hi0, hz0, hz1, hz2⟩ := info_parts Tryz.infoOrd
    go_upto_region 5 with fail
    generalize hW : w1.alloc (.cells #[.int .i64 (oAt l k).id, .int .i64 (oAt l k).side, .int .i64 (oAt l k).kind, .int .i64 (oAt l k).price, .int .i64 (oAt l k).qty] 40) = w2
    have HO : Hid (w2.heap[w1.heap.size]? = some (.cells #[.int .i64 (oAt l k).id, .int .i64 (oAt l k).side, .int .i64 (oAt l k).kind, .int .i64 (oAt l k).price, .int .i64 (oAt l k).qty] 40 (0, 0))) := by show _ = _; rw [← hW]; exact heap_alloc_new _ _
    have hB2 : Below w1.heap.size w1 w2 := by rw [← hW]; exact one_below _ _
    have HB2 : Hid _ := hB2
    have hA2 := HA1.out.below hB2 (Nat.le_refl _)
    have c2 : w2.cell? ⟨bb, 0, none⟩ = some (.slice (some ⟨g, 0, none⟩) l.length cap) := cell_of_one hA2.box
    have f2 : w2.frozen? ⟨bb, 0, none⟩ = false := ord_free (j := 0) hA2.box
    have lb2 : bb < w2.heap.size := lt_of_block hA2.box
    have lo : w1.heap.size < w2.heap.size := lt_of_block HO.out
    have HA2 : Hid _ := hA2
    have hbs2 : base ≤ w2.heap.size := by have := HB1.out.size; omega
    clear hA2 hB2 hW
    go_cut [37] (fun _ wc => ∃ g' n' c', BookIs wc base bb (.slice (some ⟨g', 0, none⟩) n' c') (goneL k l) ∧ w2.heap.size ≤ g' ∧ Out (· = bb) w2 wc)
    case first =>
      have q3 : (k : Int) ≤ (cap : Int) := by omega
      have q4 : IntKind.i64.wrap ((k : Int) + 1) = (k : Int) + 1 := IntWalk.i64_in _ (by omega)
      have q5 : (0 : Int) ≤ (k : Int) + 1 := by omega
      have q6 : (k : Int) + 1 ≤ (l.length : Int) := by omega
      have q7 : (l.length : Int) ≤ (cap : Int) := by omega
      have q8 : ((k : Int) + 1).toNat = k + 1 := by omega
      have q63 : 0 + k ≤ maxLen := by unfold maxLen; omega
      have q64 : k + (l.length - (k + 1)) ≤ maxLen := by unfold maxLen; omega
      have LA : Hid ((oV (l.take k)).length = k * 5) := (oV_length _).trans (by rw [List.length_take, Nat.min_eq_left (by omega)])
      have LB : Hid ((oV (l.drop (k + 1))).length = (l.length - (k + 1)) * 5) := (oV_length _).trans (by rw [List.length_drop])
      by_cases hce : cap = k + 1
      · subst hce
        have q65 : k + 0 ≤ maxLen := by unfold maxLen; omega
        have q9 : (k : Int) ≤ (k : Int) + 1 := by omega
        go_region_law (first | (refine step_append_all _ (by rfl) (.tmp 22) (.tmp 28) 22 (by rfl) base 40 i0 _ 5 40 Tryz.underlying22 hi0 hz0 hz1 hz2 (by rfl) (by omega) _ 0 0 [] (by rfl) (own_empty (heap_alloc_new _ _) hbs2) _ k _ (oV (l.take k)) (by rfl) LA.out (Lies.take HA2.out.all (by (repeat' first | assumption | exact Below.refl _ _ | exact Nat.le_refl _ | refine Below.drew ?_ | refine Below.alloc ?_ ?_ _ | (simp; done) | (simp; omega)))) (oV_one _) q63 (by omega) (base_le (by (repeat' first | assumption | exact Below.refl _ _ | exact Nat.le_refl _ | refine Below.drew ?_ | refine Below.alloc ?_ ?_ _ | (simp; done) | (simp; omega))) hbs2) ?_; intro gA cA wA hoA hgA hatA hltA; have bA : Below w2.heap.size w2 wA := bel_grown (by (repeat' first | assumption | exact Below.refl _ _ | exact Nat.le_refl _ | refine Below.drew ?_ | refine Below.alloc ?_ ?_ _ | (simp; done) | (simp; omega))) hgA (Nat.le_refl _); have kA : w2.heap.size ≤ gA := bel_at (by (repeat' first | assumption | exact Below.refl _ _ | exact Nat.le_refl _ | refine Below.drew ?_ | refine Below.alloc ?_ ?_ _ | (simp; done) | (simp; omega))) hatA (Nat.le_refl _); have lA : w2.heap.size ≤ wA.heap.size := bA.size; have yA0 := cell_of_one ((bA.block _ lb2).trans HA2.out.box); rw [Nat.zero_add, List.nil_append] at hoA; have OA : Hid _ := hoA; have BA : Hid _ := bA; clear hoA hatA bA hgA) | (refine step_append_all _ (by rfl) (.tmp 29) (.tmp 36) 22 (by rfl) base 40 i0 _ 5 40 Tryz.underlying22 hi0 hz0 hz1 hz2 (by rfl) (by omega) _ _ _ _ (by rfl) (bk_below (B := wA.heap.size) OA.out (by (repeat' first | assumption | exact Below.refl _ _ | exact Nat.le_refl _ | refine Below.drew ?_ | refine Below.alloc ?_ ?_ _ | (simp; done) | (simp; omega))) (Nat.le_refl _)) _ 0 _ [] (by rfl) (by rfl) (Or.inl ⟨rfl, rfl⟩) (by simp) q65 (by omega) (base_le (bk_more BA.out (by (repeat' first | assumption | exact Below.refl _ _ | exact Nat.le_refl _ | refine Below.drew ?_ | refine Below.alloc ?_ ?_ _ | (simp; done) | (simp; omega)))) hbs2) ?_; intro gB cB wB hoB hgB hatB hltB; have bB : Below w2.heap.size w2 wB := bel_grown (bk_more BA.out (by (repeat' first | assumption | exact Below.refl _ _ | exact Nat.le_refl _ | refine Below.drew ?_ | refine Below.alloc ?_ ?_ _ | (simp; done) | (simp; omega)))) hgB kA; have kB : w2.heap.size ≤ gB := bel_at (bk_more BA.out (by (repeat' first | assumption | exact Below.refl _ _ | exact Nat.le_refl _ | refine Below.drew ?_ | refine Below.alloc ?_ ?_ _ | (simp; done) | (simp; omega)))) hatB kA; have xB := (bB.block _ lb2).trans HA2.out.box; have yB0 := cell_of_one xB; have yB1 := ord_free (j := 0) xB; have lB : bb < wB.heap.size := Nat.lt_of_lt_of_le lb2 bB.size; have OB : Hid _ := hoB; have BB : Hid _ := bB; clear xB hoB hatB hltB hgB bB))
        all_goals go_wp2_with fail
        all_goals go_meet
        all_goals (have hd := bk_done (l' := goneL k l) HA2.out (Below.refl _ _) BB.out OB.out kB (by unfold goneL; simp; omega) (by unfold goneL; rw [oV_append, List.drop_eq_nil_of_le (by omega)]; rfl); exact ⟨_, _, _, hd.1, kB, hd.2⟩)
      · go_region_law (first | (refine step_append_all _ (by rfl) (.tmp 22) (.tmp 28) 22 (by rfl) base 40 i0 _ 5 40 Tryz.underlying22 hi0 hz0 hz1 hz2 (by rfl) (by omega) _ 0 0 [] (by rfl) (own_empty (heap_alloc_new _ _) hbs2) _ k _ (oV (l.take k)) (by rfl) LA.out (Lies.take HA2.out.all (by (repeat' first | assumption | exact Below.refl _ _ | exact Nat.le_refl _ | refine Below.drew ?_ | refine Below.alloc ?_ ?_ _ | (simp; done) | (simp; omega)))) (oV_one _) q63 (by omega) (base_le (by (repeat' first | assumption | exact Below.refl _ _ | exact Nat.le_refl _ | refine Below.drew ?_ | refine Below.alloc ?_ ?_ _ | (simp; done) | (simp; omega))) hbs2) ?_; intro gA cA wA hoA hgA hatA hltA; have bA : Below w2.heap.size w2 wA := bel_grown (by (repeat' first | assumption | exact Below.refl _ _ | exact Nat.le_refl _ | refine Below.drew ?_ | refine Below.alloc ?_ ?_ _ | (simp; done) | (simp; omega))) hgA (Nat.le_refl _); have kA : w2.heap.size ≤ gA := bel_at (by (repeat' first | assumption | exact Below.refl _ _ | exact Nat.le_refl _ | refine Below.drew ?_ | refine Below.alloc ?_ ?_ _ | (simp; done) | (simp; omega))) hatA (Nat.le_refl _); have lA : w2.heap.size ≤ wA.heap.size := bA.size; have yA0 := cell_of_one ((bA.block _ lb2).trans HA2.out.box); rw [Nat.zero_add, List.nil_append] at hoA; have OA : Hid _ := hoA; have BA : Hid _ := bA; clear hoA hatA bA hgA) | (refine step_append_all _ (by rfl) (.tmp 29) (.tmp 36) 22 (by rfl) base 40 i0 _ 5 40 Tryz.underlying22 hi0 hz0 hz1 hz2 (by rfl) (by omega) _ _ _ _ (by rfl) (bk_below (B := wA.heap.size) OA.out (by (repeat' first | assumption | exact Below.refl _ _ | exact Nat.le_refl _ | refine Below.drew ?_ | refine Below.alloc ?_ ?_ _ | (simp; done) | (simp; omega))) (Nat.le_refl _)) _ (l.length - (k + 1)) _ (oV (l.drop (k + 1))) (by rfl) LB.out (by first | exact Lies.drop HA2.out.all (bk_more BA.out (by (repeat' first | assumption | exact Below.refl _ _ | exact Nat.le_refl _ | refine Below.drew ?_ | refine Below.alloc ?_ ?_ _ | (simp; done) | (simp; omega)))) | exact Or.inl ⟨by omega, by rw [List.drop_eq_nil_of_le (by omega)]; rfl⟩) (oV_one _) q64 (by omega) (base_le (bk_more BA.out (by (repeat' first | assumption | exact Below.refl _ _ | exact Nat.le_refl _ | refine Below.drew ?_ | refine Below.alloc ?_ ?_ _ | (simp; done) | (simp; omega)))) hbs2) ?_; intro gB cB wB hoB hgB hatB hltB; have bB : Below w2.heap.size w2 wB := bel_grown (bk_more BA.out (by (repeat' first | assumption | exact Below.refl _ _ | exact Nat.le_refl _ | refine Below.drew ?_ | refine Below.alloc ?_ ?_ _ | (simp; done) | (simp; omega)))) hgB kA; have kB : w2.heap.size ≤ gB := bel_at (bk_more BA.out (by (repeat' first | assumption | exact Below.refl _ _ | exact Nat.le_refl _ | refine Below.drew ?_ | refine Below.alloc ?_ ?_ _ | (simp; done) | (simp; omega)))) hatB kA; have xB := (bB.block _ lb2).trans HA2.out.box; have yB0 := cell_of_one xB; have yB1 := ord_free (j := 0) xB; have lB : bb < wB.heap.size := Nat.lt_of_lt_of_le lb2 bB.size; have OB : Hid _ := hoB; have BB : Hid _ := bB; clear xB hoB hatB hltB hgB bB))
        all_goals go_wp2_with fail
        all_goals go_meet
        all_goals (have hd := bk_done (l' := goneL k l) HA2.out (Below.refl _ _) BB.out OB.out kB (by unfold goneL; simp; omega) (by unfold goneL; rw [oV_append]); exact ⟨_, _, _, hd.1, kB, hd.2⟩)
    case rest =>
      obtain ⟨g', n', c', h1, h2, h3⟩ := hcut
      have hx := (h3.block _ (by omega) (by have := lt_of_block HA.out.box; omega)).trans ((HB2.out.block _ lx).trans HX.out)
      have hy := (h3.block _ lo (by omega)).trans HO.out
      have z0 := ord_cell (j := 0) hx rfl
      have z1 := ord_cell (j := 1) hx rfl
      have z2 := ord_cell (j := 2) hx rfl
      have z3 := ord_cell (j := 3) hx rfl
      have z4 := ord_cell (j := 4) hx rfl
      have f0 := ord_free (j := 0) hx
      have f1 := ord_free (j := 1) hx
      have f2 := ord_free (j := 2) hx
      have f3 := ord_free (j := 3) hx
      have f4 := ord_free (j := 4) hx
      have y0 := ord_cell (j := 0) hy rfl
      have y1 := ord_cell (j := 1) hy rfl
      have y2 := ord_cell (j := 2) hy rfl
      have y3 := ord_cell (j := 3) hy rfl
      have y4 := ord_cell (j := 4) hy rfl
      have HO3 : Hid (Out (· = bb) w wc) := (Out.of_below (HB1.out.trans (HB2.out.mono HB1.out.size)) (Nat.le_refl _)).trans h3 (Went.refl _ _)
      have nb : w.heap.size ≠ bb := by have := lt_of_block HA.out.box; omega
      have ng : (Value.slice (some ⟨g', 0, none⟩) n' c').ownBlock ≠ some w.heap.size := fun e => by
        have e' : g' = w.heap.size := by simpa [Value.ownBlock] using e
        omega
      have HF : Hid (w.heap.size ≠ bb ∧ (Value.slice (some ⟨g', 0, none⟩) n' c').ownBlock ≠ some w.heap.size) := ⟨nb, ng⟩
      have H1 : Hid _ := h1
      have HG : Hid (w.heap.size ≤ g') := by show w.heap.size ≤ g'; omega
      clear hx hy h1 h2 h3 nb ng
      go_wp2_with fail
      refine bodyPost_ret (by simp [results, Tryz.results51, go_sem, z0, z1, z2, z3, z4]; try rfl) rfl ?_
      exact ⟨bk_outset (bk_outset (bk_outset (bk_outset (bk_outset HO3.out (Nat.le_refl _)) (Nat.le_refl _)) (Nat.le_refl _)) (Nat.le_refl _)) (Nat.le_refl _), _, Or.inr ⟨k, hk, HN.out, HID.out, rfl, ((((H1.out.set_far HF.out.1 HF.out.2).set_far HF.out.1 HF.out.2).set_far HF.out.1 HF.out.2).set_far HF.out.1 HF.out.2).set_far HF.out.1 HF.out.2, own_new HG.out⟩⟩
/-- Cancel whole -/
theorem bkCancel (base bb : Nat) (v : Value) (l : List Ord) (id : Int) (w : World) (h : BookIs w base bb v l) (hl : l.length ≤ 100) (hbs : base ≤ w.heap.size) :
    Calls Tryz.prog 51 #[.pointer (some ⟨bb, 0, none⟩), .int .i64 id] w
      fun e w' => Out (· = bb) w w' ∧ ∃ v', ((idxO id l = -1 ∧ e = .returned (.tuple #[Ord.none_.agg, .int .i64 7]) ∧ BookIs w' base bb v' l) ∨ ∃ k : Nat, k < l.length ∧ idxO id l = k ∧ (oAt l k).id = id ∧ e = .returned (.tuple #[(oAt l k).agg, .int .i64 0]) ∧ BookIs w' base bb v' (goneL k l)) := by
  refine (bkCancelN base bb v l id w h hl hbs).mono ?_
  rintro e w' ⟨hO, v', h1 | ⟨k, hk, h1, h2, h3, h4, _⟩⟩
  · exact ⟨hO, v', Or.inl h1⟩
  · exact ⟨hO, v', Or.inr ⟨k, hk, h1, h2, h3, h4⟩⟩
end Go.Proofs.YtcoijhofliilmabGreatDoor

/-
  What the document's Cut (4.1) does, over this translation. Conditions stand in each theorem: where the Book lies, that there are at most 100 orders.
-/
namespace Go.Proofs.YtcoijhofliilmabGreatDoor
open Go.RowKit

theorem oV_cut (q : Int) : ∀ (l : List Ord) (k : Nat), k < l.length → (oV l).set (k * 5 + 4) (.int .i64 ((oAt l k).qty - q)) = oV (l.set k (cutO q (oAt l k)))
  | [], _, h => by simp at h
  | o :: l, 0, _ => by simp [oV, oAt, cutO]
  | o :: l, k + 1, h => by
    have := oV_cut q l k (by simpa using h)
    have e : oAt (o :: l) (k + 1) = oAt l k := by simp [oAt]
    rw [e, show (k + 1) * 5 + 4 = k * 5 + 4 + 1 + 1 + 1 + 1 + 1 by omega]
    simp [oV, this]
theorem BookIs.cut {w : World} {base bb g cap k : Nat} {q : Int} {l : List Ord} (h : BookIs w base bb (.slice (some ⟨g, 0, none⟩) l.length cap) l) (hk : k < l.length) (hg : g ≠ bb) :
    BookIs (w.setCell ⟨g, k * 5 + 4, none⟩ (.int .i64 ((oAt l k).qty - q))) base bb (.slice (some ⟨g, 0, none⟩) l.length cap) (l.set k (cutO q (oAt l k))) := by
  obtain ⟨h1, _⟩ := h.all.stored (k * 5 + 4) (.int .i64 ((oAt l k).qty - q))
  refine ⟨(Below.heap_setCell _ _ _ _ (fun e => hg e.symm)).trans h.box, ?_⟩
  rw [List.length_set, ← oV_cut q l k hk]
  exact h1
theorem wpList_append_all {P : Program} (w : World) {ops : Array Oper} {rest : List Oper} {o : Oper} {a : Act} {Q : Exit → Act → World → Prop} (hgd : o.guard = none) (s x : Operand) (t : TypeId)
    (ho : o.op = .call { callee := .builtin .append, args := #[s, x], argTypes := #[t, t] })
    (base : Nat) (e : TypeId) (i : TypeInfo) (z : Value) (size bytes : Nat) (ht : P.underlying t = some (.slice e)) (hi : P.info? e = some i) (hz : i.zero = some z)
    (hsize : i.size = size) (hby : i.bytes = bytes) (hzs : z.cells.size = size) (hsz : 0 < size)
    (b n c0 : Nat) (xs : List Value) (hs : a.eval s = .slice (some ⟨b, 0, none⟩) n c0) (hown : w.ownsRow base e size (.slice (some ⟨b, 0, none⟩) n c0) n xs)
    (ao : Option Addr) (m c : Nat) (news : List Value) (hv : a.eval x = .slice ao m c) (hl : news.length = m * size) (hx : Lies w ao m news) (h1 : ∀ u ∈ news, u.oneCell' = true)
    (h63 : n + m ≤ maxLen) (hbytes : (n + m) * bytes ≤ 140737488355328) (hbase : base ≤ w.heap.size)
    (h : ∀ g cap w', w'.ownsRow base e size (.slice (some ⟨g, 0, none⟩) (n + m) cap) (n + m) (xs ++ news) → w.grownBy w' (some b) → (g = b ∨ g = w.heap.size) → g < w'.heap.size → wpList P ops Q rest (a.put o.dst (.slice (some ⟨g, 0, none⟩) (n + m) cap)) w') : wpList P ops Q (o :: rest) a w :=
  wpList_plain hgd fun _ hK => wp_append_all w s x t ho base e i z size bytes ht hi hz hsize hby hzs hsz b n c0 xs hs hown ao m c news hv hl hx h1 h63 hbytes hbase fun g cap w' h2 h3 h4 h5 => hK _ _ (h g cap w' h2 h3 h4 h5)

set_option maxRecDepth 100000 in
set_option maxHeartbeats 4000000 in
theorem bkCutN (base bb : Nat) (v : Value) (l : List Ord) (id q : Int) (w : World) (h : BookIs w base bb v l) (hl : l.length ≤ 100) (hbs : base ≤ w.heap.size) (hqs : ∀ k, (oAt l k).qty ≤ 1000000) :
    Calls Tryz.prog 23 #[.pointer (some ⟨bb, 0, none⟩), .int .i64 id, .int .i64 q] w
      fun e w' => Out (· = bb) w w' ∧ ∃ v', ((idxO id l = -1 ∧ e = .returned (.int .i64 7) ∧ BookIs w' base bb v' l) ∨ ∃ k : Nat, k < l.length ∧ idxO id l = k ∧ (oAt l k).id = id ∧
        (((decide (1 ≤ q) && decide (q ≤ (oAt l k).qty)) = false ∧ e = .returned (.int .i64 2) ∧ BookIs w' base bb v' l) ∨ ((decide (1 ≤ q) && decide (q ≤ (oAt l k).qty)) = true ∧ e = .returned (.int .i64 0) ∧ BookIs w' base bb v' (if (oAt l k).qty = q then goneL k l else l.set k (cutO q (oAt l k))) ∧ ∀ j, v'.ownBlock = some j → w.heap.size ≤ j))) := by
  have HA : Hid (BookIs w base bb v l) := h
  clear h
  go_enter Tryz.func23, Tryz.ntmps23
  go_wp2_with fail
  refine (bkIndex base bb v l id _ HA.out (by omega)).mono ?_
  rintro e w1 ⟨rfl, hb1⟩
  have HB1 : Hid (Below w.heap.size w w1) := hb1
  clear hb1
  rcases idxF_in id l 0 with hn | ⟨k, hk, hi, hid⟩
  · have HN : Hid (idxO id l = -1) := hn
    rw [show idxO id l = -1 from hn]
    clear hn
    go_wp2_with fail
    go_ret
    exact ⟨Out.of_below HB1.out (Nat.le_refl _), v, Or.inl ⟨HN.out, rfl, HA.out.below HB1.out (Nat.le_refl _)⟩⟩
  · rw [Nat.zero_add] at hi
    have HN : Hid (idxO id l = k) := hi
    have HID : Hid ((oAt l k).id = id) := hid
    rw [show idxO id l = k from hi]
    clear hi hid
    have hA1 := HA.out.below HB1.out (Nat.le_refl _)
    obtain ⟨g, cap, rfl, d0, d1, d2, d3, d4⟩ := row_order hA1.all hk
    have c0 : w1.cell? ⟨bb, 0, none⟩ = some (.slice (some ⟨g, 0, none⟩) l.length cap) := cell_of_one hA1.box
    have f0 : w1.frozen? ⟨bb, 0, none⟩ = false := ord_free (j := 0) hA1.box
    have lb : bb < w1.heap.size := lt_of_block hA1.box
    have q1 : (0 : Int) ≤ (k : Int) := by omega
    have q2 : (k : Int) < l.length := by omega
    have HA1 : Hid _ := hA1
    clear hA1
    go_wp2_with fail
    refine (bkIn q 1 (oAt l k).qty _).mono ?_
    rintro e w2 ⟨rfl, hw⟩
    subst hw
    cases hq : (decide (1 ≤ q) && decide (q ≤ (oAt l k).qty)) with
    | false =>
      have HQ : Hid ((decide (1 ≤ q) && decide (q ≤ (oAt l k).qty)) = false) := hq
      clear hq
      go_wp2_with fail
      go_ret
      exact ⟨Out.of_below HB1.out (Nat.le_refl _), _, Or.inr ⟨k, hk, HN.out, HID.out, Or.inl ⟨HQ.out, rfl, HA1.out⟩⟩⟩
    | true =>
      have HQ : Hid ((decide (1 ≤ q) && decide (q ≤ (oAt l k).qty)) = true) := hq
      clear hq
      have hbs2 : base ≤ w2.heap.size := Nat.le_trans hbs HB1.out.size
      have q63 : 0 + l.length ≤ maxLen := by unfold maxLen; omega
      obtain ⟨i0, hi0, hz0, hz1, hz2⟩ := info_parts Tryz.infoOrd
      have hq1 : 1 ≤ q ∧ q ≤ (oAt l k).qty := by simpa using HQ.out
      have q4 : IntKind.i64.wrap ((oAt l k).qty - q) = (oAt l k).qty - q := IntWalk.i64_in _ (by have := hqs k; omega)
      obtain ⟨hq2, hq3⟩ := hq1
      clear hqs
      go_upto_if 53 with (at_builtin; go_loud (refine wpList_append_all _ rfl _ _ 22 rfl base 40 i0 _ 5 40 Tryz.underlying22 hi0 hz0 hz1 hz2 (by rfl) (by omega) _ 0 0 [] (by rfl) (own_empty (heap_alloc_new _ _) hbs2) _ l.length cap (oV l) (by rfl) (oV_length l) (Lies.of_row HA1.out.all (by (repeat' first | assumption | exact Below.refl _ _ | exact Nat.le_refl _ | refine Below.drew ?_ | refine Below.alloc ?_ ?_ _ | (simp; done) | (simp; omega)))) (oV_one l) q63 (by omega) (base_le (by (repeat' first | assumption | exact Below.refl _ _ | exact Nat.le_refl _ | refine Below.drew ?_ | refine Below.alloc ?_ ?_ _ | (simp; done) | (simp; omega))) hbs2) ?_; intro gA cA wA hoA hgA hatA hltA; have bA : Below w2.heap.size w2 wA := bel_grown (by (repeat' first | assumption | exact Below.refl _ _ | exact Nat.le_refl _ | refine Below.drew ?_ | refine Below.alloc ?_ ?_ _ | (simp; done) | (simp; omega))) hgA (Nat.le_refl _); have kA : w2.heap.size ≤ gA := bel_at (by (repeat' first | assumption | exact Below.refl _ _ | exact Nat.le_refl _ | refine Below.drew ?_ | refine Below.alloc ?_ ?_ _ | (simp; done) | (simp; omega))) hatA (Nat.le_refl _); have xA := (bA.block _ lb).trans HA1.out.box; have yA0 := cell_of_one xA; have yA1 := ord_free (j := 0) xA; rw [Nat.zero_add, List.nil_append] at hoA; have eA := (hoA.cellAt (k * 5 + 4) (by omega)).trans (oV_at hk).2.2.2.2; have gA1 := hoA.frozenAt (k * 5 + 4); have nA : gA ≠ bb := (by omega); have nA' : bb ≠ gA := (by omega); have OA : Hid _ := hoA; have BA : Hid _ := bA; clear hoA hatA bA hgA xA))
      have hd := bk_done (l' := l) HA1.out HB1.out BA.out OA.out kA rfl rfl
      have HD1 : Hid _ := hd.1.cut (q := q) hk nA
      have HD2 : Hid _ := bk_outset (j := k * 5 + 4) (u := .int .i64 ((oAt l k).qty - q)) hd.2 (Nat.le_trans HB1.out.size kA)
      clear hd
      by_cases hz : (oAt l k).qty = q
      · have hzb : ((oAt l k).qty - q == 0) = true := beq_iff_eq.2 (by omega)
        have HZ : Hid ((oAt l k).qty = q) := hz
        clear hz
        go_wp2_with fail
        refine (bkCancelN base bb _ (l.set k (cutO q (oAt l k))) id _ HD1.out (by simpa using hl) (Nat.le_trans hbs HD2.out.size)).mono ?_
        rintro e w3 ⟨ho3, v', hr⟩
        have e1 : idxO id (l.set k (cutO q (oAt l k))) = idxO id l := idxF_set id l k 0 _ rfl
        have hb3 : (BookIs w3 base bb v' (goneL k l) ∧ ∀ j, v'.ownBlock = some j → w.heap.size ≤ j) ∧ ∃ u, e = .returned u := by
          rcases hr with ⟨h1, _⟩ | ⟨k', _, h1, _, h2, h3, h4⟩
          · rw [e1, HN.out] at h1; omega
          · rw [e1, HN.out] at h1
            obtain rfl : k = k' := by omega
            rw [goneL_set] at h3
            exact ⟨⟨h3, fun j hj => Nat.le_trans HD2.out.size (h4 j hj)⟩, _, h2⟩
        obtain ⟨h3, u, rfl⟩ := hb3
        have H3 : Hid _ := h3
        have HO3 : Hid _ := HD2.out.trans ho3 (Went.refl _ _)
        clear h3 ho3 hr e1
        go_wp2_with fail
        go_ret
        exact ⟨HO3.out, v', Or.inr ⟨k, hk, HN.out, HID.out, Or.inr ⟨HQ.out, rfl, by rw [if_pos HZ.out]; exact H3.out.1, H3.out.2⟩⟩⟩
      · have hzb : ((oAt l k).qty - q == 0) = false := beq_eq_false_iff_ne.2 (by omega)
        have HZ : Hid (¬ (oAt l k).qty = q) := hz
        clear hz
        go_wp2_with fail
        go_ret
        exact ⟨HD2.out, _, Or.inr ⟨k, hk, HN.out, HID.out, Or.inr ⟨HQ.out, rfl, by rw [if_neg HZ.out]; exact HD1.out, own_new (Nat.le_trans HB1.out.size kA)⟩⟩⟩
/-- Cut whole -/
theorem bkCut (base bb : Nat) (v : Value) (l : List Ord) (id q : Int) (w : World) (h : BookIs w base bb v l) (hl : l.length ≤ 100) (hbs : base ≤ w.heap.size) (hqs : ∀ k, (oAt l k).qty ≤ 1000000) :
    Calls Tryz.prog 23 #[.pointer (some ⟨bb, 0, none⟩), .int .i64 id, .int .i64 q] w
      fun e w' => Out (· = bb) w w' ∧ ∃ v', ((idxO id l = -1 ∧ e = .returned (.int .i64 7) ∧ BookIs w' base bb v' l) ∨ ∃ k : Nat, k < l.length ∧ idxO id l = k ∧ (oAt l k).id = id ∧
        (((decide (1 ≤ q) && decide (q ≤ (oAt l k).qty)) = false ∧ e = .returned (.int .i64 2) ∧ BookIs w' base bb v' l) ∨ ((decide (1 ≤ q) && decide (q ≤ (oAt l k).qty)) = true ∧ e = .returned (.int .i64 0) ∧ BookIs w' base bb v' (if (oAt l k).qty = q then goneL k l else l.set k (cutO q (oAt l k)))))) := by
  refine (bkCutN base bb v l id q w h hl hbs hqs).mono ?_
  rintro e w' ⟨hO, v', h1 | ⟨k, hk, h1, h2, h3 | ⟨h3, h4, h5, _⟩⟩⟩
  · exact ⟨hO, v', Or.inl h1⟩
  · exact ⟨hO, v', Or.inr ⟨k, hk, h1, h2, Or.inl h3⟩⟩
  · exact ⟨hO, v', Or.inr ⟨k, hk, h1, h2, Or.inr ⟨h3, h4, h5⟩⟩⟩
end Go.Proofs.YtcoijhofliilmabGreatDoor

/-
  Levels of a side: the document's depth as plain lists, and how lists of levels lie in memory. Conditions stand in each theorem.
-/
namespace Go.Proofs.YtcoijhofliilmabGreatDoor
open Go.RowKit

structure Lev where
  price : Int
  qty : Int
  orders : Int
def Lev.none_ : Lev := ⟨0, 0, 0⟩
def lvV : List Lev → List Value
  | [] => []
  | x :: l => .int .i64 x.price :: .int .i64 x.qty :: .int .i64 x.orders :: lvV l
def lvAt (l : List Lev) (k : Nat) : Lev := l.getD k Lev.none_
theorem lvV_length (l : List Lev) : (lvV l).length = l.length * 3 := by
  induction l with
  | nil => rfl
  | cons o l ih => simp [lvV, ih]; omega
theorem lvV_append (a b : List Lev) : lvV (a ++ b) = lvV a ++ lvV b := by
  induction a with
  | nil => rfl
  | cons o a ih => simp [lvV, ih]
theorem lvV_snoc (a : List Lev) (x : Lev) : lvV (a ++ [x]) = lvV a ++ [.int .i64 x.price, .int .i64 x.qty, .int .i64 x.orders] := by rw [lvV_append]; rfl
theorem lvV_at {l : List Lev} {k : Nat} (h : k < l.length) : (lvV l)[k * 3]? = some (.int .i64 (lvAt l k).price) ∧ (lvV l)[k * 3 + 1]? = some (.int .i64 (lvAt l k).qty) ∧ (lvV l)[k * 3 + 2]? = some (.int .i64 (lvAt l k).orders) := by
  induction l generalizing k with
  | nil => simp at h
  | cons o l ih =>
    cases k with
    | zero => exact ⟨rfl, rfl, rfl⟩
    | succ k =>
      have := ih (k := k) (by simpa using h)
      rw [show (k + 1) * 3 = k * 3 + 1 + 1 + 1 by omega]
      have e : lvAt (o :: l) (k + 1) = lvAt l k := by simp [lvAt]
      rw [e]
      simpa [lvV] using this
theorem lvV_set (q n : Int) : ∀ (l : List Lev) (k : Nat), k < l.length → ((lvV l).set (k * 3 + 1) (.int .i64 q)).set (k * 3 + 2) (.int .i64 n) = lvV (l.set k ⟨(lvAt l k).price, q, n⟩)
  | [], _, h => by simp at h
  | o :: l, 0, _ => by simp [lvV, lvAt]
  | o :: l, k + 1, h => by
    have := lvV_set q n l k (by simpa using h)
    have e : lvAt (o :: l) (k + 1) = lvAt l k := by simp [lvAt]
    rw [e, show (k + 1) * 3 + 1 = k * 3 + 1 + 1 + 1 + 1 by omega, show (k + 1) * 3 + 2 = k * 3 + 2 + 1 + 1 + 1 by omega]
    simp [lvV, this]
theorem lvAt_eq {l : List Lev} {k : Nat} (h : k < l.length) : lvAt l k = l[k] := by simp [lvAt, h]
theorem lvAt_mem {l : List Lev} {k : Nat} (h : k < l.length) : lvAt l k ∈ l := by rw [lvAt_eq h]; exact List.getElem_mem h
theorem lvAt_pushed (l : List Lev) (x : Lev) : lvAt (l ++ [x]) l.length = x := by simp [lvAt]

/-- one order more -/
def incL (x : Lev) (o : Ord) : Lev := ⟨x.price, x.qty + o.qty, x.orders + 1⟩
def depStep (acc : List Lev) (o : Ord) : List Lev :=
  if o.kind = 2 then acc
  else if 0 < acc.length ∧ (lvAt acc (acc.length - 1)).price = o.price then acc.set (acc.length - 1) (incL (lvAt acc (acc.length - 1)) o)
  else acc ++ [⟨o.price, o.qty, 1⟩]
def depth (l : List Ord) : List Lev := l.foldl depStep []
theorem depth_snoc (l : List Ord) (o : Ord) : depth (l ++ [o]) = depStep (depth l) o := by simp [depth]
theorem depth_take {l : List Ord} {k : Nat} (h : k < l.length) : depth (l.take (k + 1)) = depStep (depth (l.take k)) (oAt l k) := by
  rw [List.take_succ_eq_append_getElem h, depth_snoc, oAt_eq h]
theorem step_market {acc : List Lev} {o : Ord} (h : o.kind = 2) : depStep acc o = acc := if_pos h
theorem step_same {acc : List Lev} {o : Ord} (h : ¬ o.kind = 2) (h1 : 0 < acc.length) (h2 : (lvAt acc (acc.length - 1)).price = o.price) : depStep acc o = acc.set (acc.length - 1) (incL (lvAt acc (acc.length - 1)) o) := by
  unfold depStep; rw [if_neg h, if_pos ⟨h1, h2⟩]
theorem step_other {acc : List Lev} {o : Ord} (h : ¬ o.kind = 2) (h1 : ¬ (0 < acc.length ∧ (lvAt acc (acc.length - 1)).price = o.price)) : depStep acc o = acc ++ [⟨o.price, o.qty, 1⟩] := by
  unfold depStep; rw [if_neg h, if_neg h1]
/-- nothing grows too great -/
structure LevOk (k : Nat) (acc : List Lev) : Prop where
  len : acc.length ≤ k
  each : ∀ x ∈ acc, 0 ≤ x.qty ∧ x.qty ≤ 1000000 * (k : Int) ∧ 0 ≤ x.orders ∧ x.orders ≤ (k : Int)
theorem LevOk.step {k : Nat} {acc : List Lev} {o : Ord} (h : LevOk k acc) (ho : 0 ≤ o.qty ∧ o.qty ≤ 1000000) : LevOk (k + 1) (depStep acc o) := by
  have each : ∀ x ∈ acc, 0 ≤ x.qty ∧ x.qty ≤ 1000000 * ((k + 1 : Nat) : Int) ∧ 0 ≤ x.orders ∧ x.orders ≤ ((k + 1 : Nat) : Int) := fun x hx => by have := h.each x hx; omega
  have hl := h.len
  by_cases h1 : o.kind = 2
  · rw [step_market h1]; exact ⟨by omega, each⟩
  by_cases h2 : 0 < acc.length ∧ (lvAt acc (acc.length - 1)).price = o.price
  · rw [step_same h1 h2.1 h2.2]
    refine ⟨by rw [List.length_set]; omega, fun x hx => ?_⟩
    rcases List.mem_or_eq_of_mem_set hx with hx | rfl
    · exact each x hx
    · have := h.each _ (lvAt_mem (l := acc) (k := acc.length - 1) (by omega))
      show 0 ≤ _ + _ ∧ _ + _ ≤ _ ∧ 0 ≤ _ + _ ∧ _ + _ ≤ _
      omega
  · rw [step_other h1 h2]
    refine ⟨by simp; omega, fun x hx => ?_⟩
    rcases List.mem_append.1 hx with hx | hx
    · exact each x hx
    · simp at hx; subst hx
      show 0 ≤ o.qty ∧ o.qty ≤ _ ∧ (0 : Int) ≤ 1 ∧ (1 : Int) ≤ _
      omega
theorem LevOk.nil : LevOk 0 [] := ⟨Nat.le_refl _, fun x hx => by cases hx⟩
theorem depth_ok {l : List Ord} (h : ∀ o ∈ l, 0 ≤ o.qty ∧ o.qty ≤ 1000000) : ∀ k, k ≤ l.length → LevOk k (depth (l.take k))
  | 0, _ => by rw [List.take_zero]; exact LevOk.nil
  | k + 1, hk => by
    have hk' : k < l.length := by omega
    rw [depth_take hk']
    exact (depth_ok h k (by omega)).step (h _ (by rw [oAt_eq hk']; exact List.getElem_mem hk'))
theorem LevOk.last {k : Nat} {acc : List Lev} (h : LevOk k acc) (h1 : 0 < acc.length) : 0 ≤ (lvAt acc (acc.length - 1)).qty ∧ (lvAt acc (acc.length - 1)).qty ≤ 1000000 * (k : Int) ∧ 0 ≤ (lvAt acc (acc.length - 1)).orders ∧ (lvAt acc (acc.length - 1)).orders ≤ (k : Int) := h.each _ (lvAt_mem (by omega))
/-! the same, with numbers that wrap: whatever the orders are -/
def incW (x : Lev) (o : Ord) : Lev := ⟨x.price, wrap64 (x.qty + o.qty), wrap64 (x.orders + 1)⟩
def depStepW (acc : List Lev) (o : Ord) : List Lev :=
  if o.kind = 2 then acc
  else if 0 < acc.length ∧ (lvAt acc (acc.length - 1)).price = o.price then acc.set (acc.length - 1) (incW (lvAt acc (acc.length - 1)) o)
  else acc ++ [⟨o.price, wrap64 o.qty, 1⟩]
def depthW (l : List Ord) : List Lev := l.foldl depStepW []
theorem depthW_snoc (l : List Ord) (o : Ord) : depthW (l ++ [o]) = depStepW (depthW l) o := by simp [depthW]
theorem stepW_market {acc : List Lev} {o : Ord} (h : o.kind = 2) : depStepW acc o = acc := if_pos h
theorem stepW_same {acc : List Lev} {o : Ord} (h : ¬ o.kind = 2) (h1 : 0 < acc.length) (h2 : (lvAt acc (acc.length - 1)).price = o.price) : depStepW acc o = acc.set (acc.length - 1) (incW (lvAt acc (acc.length - 1)) o) := by
  unfold depStepW; rw [if_neg h, if_pos ⟨h1, h2⟩]
theorem stepW_other {acc : List Lev} {o : Ord} (h : ¬ o.kind = 2) (h1 : ¬ (0 < acc.length ∧ (lvAt acc (acc.length - 1)).price = o.price)) : depStepW acc o = acc ++ [⟨o.price, wrap64 o.qty, 1⟩] := by
  unfold depStepW; rw [if_neg h, if_neg h1]
theorem stepW_len (acc : List Lev) (o : Ord) : (depStepW acc o).length ≤ acc.length + 1 := by
  unfold depStepW
  split
  · omega
  split
  · simp
  · simp
theorem foldW_len : ∀ (l : List Ord) (acc : List Lev), (l.foldl depStepW acc).length ≤ acc.length + l.length
  | [], acc => by simp
  | o :: l, acc => by
    have h1 := foldW_len l (depStepW acc o)
    have h2 := stepW_len acc o
    simp only [List.foldl_cons, List.length_cons]
    omega
theorem depthW_len (l : List Ord) : (depthW l).length ≤ l.length := by have := foldW_len l []; simpa [depthW] using this
theorem stepW_eq {k : Nat} {acc : List Lev} {o : Ord} (h : LevOk k acc) (hk : k ≤ 1000) (ho : 0 ≤ o.qty ∧ o.qty ≤ 1000000) : depStepW acc o = depStep acc o := by
  by_cases h1 : o.kind = 2
  · rw [stepW_market h1, step_market h1]
  by_cases h2 : 0 < acc.length ∧ (lvAt acc (acc.length - 1)).price = o.price
  · rw [stepW_same h1 h2.1 h2.2, step_same h1 h2.1 h2.2]
    have := h.last h2.1
    unfold incW incL
    rw [IntWalk.wrap64_in _ (by omega), IntWalk.wrap64_in _ (by omega)]
  · rw [stepW_other h1 h2, step_other h1 h2, IntWalk.wrap64_in _ (by omega)]
theorem depthW_eq {l : List Ord} (h : ∀ o ∈ l, 0 ≤ o.qty ∧ o.qty ≤ 1000000) (hl : l.length ≤ 1000) : depthW l = depth l := by
  have hk : ∀ k, k ≤ l.length → depthW (l.take k) = depth (l.take k) := fun k => by
    induction k with
    | zero => intro _; rfl
    | succ k ih =>
      intro hk
      have hk' : k < l.length := by omega
      rw [depth_take hk', List.take_succ_eq_append_getElem hk', depthW_snoc, ih (by omega), ← oAt_eq hk']
      exact stepW_eq (depth_ok h k (by omega)) (by omega) (h _ (by rw [oAt_eq hk']; exact List.getElem_mem hk'))
  have := hk l.length (Nat.le_refl _)
  rwa [List.take_length] at this
/-- the last level's cells -/
theorem row_last {w : World} {base : Nat} {v : Value} {l : List Lev} (h : w.ownsRow base 80 3 v l.length (lvV l)) {k : Nat} (hk : k < l.length) :
    ∃ g cap, v = .slice (some ⟨g, 0, none⟩) l.length cap ∧ w.cell? ⟨g, k * 3, none⟩ = some (.int .i64 (lvAt l k).price) ∧ w.cell? ⟨g, k * 3 + 1, none⟩ = some (.int .i64 (lvAt l k).qty) ∧ w.cell? ⟨g, k * 3 + 2, none⟩ = some (.int .i64 (lvAt l k).orders) ∧ w.frozen? ⟨g, k * 3 + 1, none⟩ = false ∧ w.frozen? ⟨g, k * 3 + 2, none⟩ = false := by
  obtain ⟨g, cap, rfl, _, _⟩ := h.form (by omega)
  obtain ⟨h1, h2, h3⟩ := lvV_at hk
  exact ⟨g, cap, rfl, (h.cellAt _ (by omega)).trans h1, (h.cellAt _ (by omega)).trans h2, (h.cellAt _ (by omega)).trans h3, h.frozenAt _, h.frozenAt _⟩
/-- both its numbers are written -/
theorem row_inc {w : World} {base g n cap k : Nat} {l : List Lev} {q m : Int} (h : w.ownsRow base 80 3 (.slice (some ⟨g, 0, none⟩) n cap) l.length (lvV l)) (hk : k < l.length) :
    ((w.setCell ⟨g, k * 3 + 1, none⟩ (.int .i64 q)).setCell ⟨g, k * 3 + 2, none⟩ (.int .i64 m)).ownsRow base 80 3 (.slice (some ⟨g, 0, none⟩) n cap) (l.set k ⟨(lvAt l k).price, q, m⟩).length (lvV (l.set k ⟨(lvAt l k).price, q, m⟩)) := by
  rcases h.2 with ⟨he, _⟩ | ⟨g', cap', cur, he, _⟩
  · cases he
  injection he with _ he _
  subst he
  obtain ⟨h1, _⟩ := h.stored (k * 3 + 1) (.int .i64 q)
  obtain ⟨h2, _⟩ := h1.stored (k * 3 + 2) (.int .i64 m)
  rw [List.length_set, ← lvV_set q m l k hk]
  exact h2
theorem Tryz.infoLev : (Tryz.prog.info? 80).map (fun i => (i.zero, i.size, i.bytes)) = some (some (.agg #[.int .i64 0, .int .i64 0, .int .i64 0]), 3, 24) := by kernel_rfl
end Go.Proofs.YtcoijhofliilmabGreatDoor

/-
  What the document's Depth returns, over this seat's translation. Conditions stand in each theorem.
-/
namespace Go.Proofs.YtcoijhofliilmabGreatDoor
open Go.RowKit


theorem blk_cellB {w : World} {b j : Nat} {vs : Array Value} {t : TypeId} {v : Value} (h : w.heap[b]? = some (.cells vs t (0, 0))) (hj : vs[j]? = some v) : w.cell? ⟨b, j, none⟩ = some v := (cell_of_row w b j vs t (0, 0) h).trans hj
set_option maxRecDepth 4000 in
set_option maxHeartbeats 4000000 in
theorem bkDepth (base bb : Nat) (v : Value) (l : List Ord) (side : Int) (w : World) (h : BookIs w base bb v l) (hl : l.length ≤ 1000) (hp : ∀ o ∈ l, -1000000000 ≤ o.price ∧ o.price ≤ 1000000000) (hq : ∀ o ∈ l, 0 ≤ o.qty ∧ o.qty ≤ 1000000) :
    Calls Tryz.prog 33 #[.pointer (some ⟨bb, 0, none⟩), .int .i64 side] w fun e w' => ∃ v', e = .returned v' ∧ w'.ownsRow w.heap.size 80 3 v' (depth (sideO side l)).length (lvV (depth (sideO side l))) ∧ Below w.heap.size w w' := by
  obtain ⟨i0, hi, hz0, hz1, hz2⟩ := info_parts Tryz.infoLev
  have HQ : Hid (∀ o ∈ sideO side l, 0 ≤ o.qty ∧ o.qty ≤ 1000000) := fun o ho => hq o (sideO_mem.1 ho).1
  have hL : (sideO side l).length ≤ 1000 := Nat.le_trans (sideO_len side l) hl
  go_enter Tryz.func33, Tryz.ntmps33
  go_wp2_with fail
  refine (bkSide base bb v l side w h hl hp).mono ?_
  rintro e w1 ⟨v', rfl, hown1, hb1⟩
  clear h hl hp hq
  obtain ⟨L, hLe⟩ : ∃ L, L = sideO side l := ⟨_, rfl⟩
  have HLE : Hid (sideO side l = L) := hLe.symm
  rw [← hLe] at HQ hL hown1
  clear hLe
  have HO1 : Hid (w1.ownsRow w.heap.size 40 5 v' L.length (oV L)) := hown1
  have HB1 : Hid (Below w.heap.size w w1) := hb1
  obtain ⟨ao, cap, rfl, _, _⟩ := bk_shape hown1
  clear hown1 hb1
  go_wp2_with fail
  go_loopw [5, 13] (fun vo vi wr => ∃ k : Nat, k ≤ L.length ∧ vi = .int .i64 k ∧ Below w1.heap.size w1 wr ∧ wr.ownsRow w1.heap.size 80 3 vo (depth (L.take k)).length (lvV (depth (L.take k)))) (fun _ vi _ => L.length - (intOf vi).toNat)
  case atStart => exact ⟨0, Nat.zero_le _, rfl, Below.refl _ _, World.ownsRow_nil _ _ _ _⟩
  case round =>
    obtain ⟨k, hk, rfl, hb, hown⟩ := hrel
    have HB : Hid (Below w1.heap.size w1 wr) := hb
    have HW : Hid (wr.ownsRow w1.heap.size 80 3 u5 (depth (L.take k)).length (lvV (depth (L.take k)))) := hown
    have hok := depth_ok HQ.out k hk
    obtain ⟨vao, vcap, rfl, _, _⟩ := bk_shape hown
    by_cases hk1 : k < L.length
    · obtain ⟨g, cap', hv, d0, d1, d2, d3, d4⟩ := row_order (bk_below HO1.out hb (Nat.le_refl _)) hk1
      simp only [Value.slice.injEq, true_and] at hv
      obtain ⟨rfl, rfl⟩ := hv
      have HT : Hid (depth (L.take (k + 1)) = depStep (depth (L.take k)) (oAt L k)) := depth_take hk1
      have ho := HQ.out (oAt L k) (by rw [oAt_eq hk1]; exact List.getElem_mem hk1)
      have q0 : (0 : Int) ≤ (k : Int) := by omega
      have q1 : (k : Int) < (L.length : Int) := by omega
      generalize oAt L k = o at HT d0 d1 d2 d3 d4 ho
      generalize depth (L.take k) = acc at HT HW hok hown
      by_cases hm : o.kind = 2
      · rw [hm] at d2
        clear hb hown
        go_wp2_with fail
        go_roundw
        case rel => exact ⟨k + 1, hk1, by go_num, HB.out.alloc HB.out.size _, by rw [HT.out, step_market hm]; exact HW.out.alloc _⟩
        case measure => simp [intOf]; omega
      · have hmb : (o.kind == 2) = false := beq_eq_false_iff_ne.2 hm
        have hA := heap_alloc_new wr (.cells #[.int .i64 o.id, .int .i64 o.side, .int .i64 o.kind, .int .i64 o.price, .int .i64 o.qty] 40)
        have hbA := HB.out.alloc HB.out.size (.cells #[.int .i64 o.id, .int .i64 o.side, .int .i64 o.kind, .int .i64 o.price, .int .i64 o.qty] 40)
        have hoA := hown.alloc (.cells #[.int .i64 o.id, .int .i64 o.side, .int .i64 o.kind, .int .i64 o.price, .int .i64 o.qty] 40)
        have hll := hok.len
        have hlast := hok.last
        have HOK : Hid (LevOk k acc) := hok
        clear hb hown hok
        obtain ⟨N, hN⟩ : ∃ N, acc.length = N := ⟨_, rfl⟩
        rw [hN] at hoA HW hll hlast ⊢
        cases N with
        | succ n =>
          rw [Nat.add_sub_cancel] at hlast
          have hlast := hlast (Nat.succ_pos n)
          go_wp2_with fail
          generalize wr.alloc (.cells #[.int .i64 o.id, .int .i64 o.side, .int .i64 o.kind, .int .i64 o.price, .int .i64 o.qty] 40) = W at hA hbA hoA ⊢
          have e3 := blk_cellB (j := 3) hA rfl
          have e4 := blk_cellB (j := 4) hA rfl
          rw [← hN] at hoA
          obtain ⟨gl, cl, hvl, c0, c1, c2, f1, f2⟩ := row_last hoA (k := n) (by omega)
          rw [hN] at hoA
          simp only [Value.slice.injEq, true_and, hN] at hvl
          obtain ⟨hvl1, hvl2⟩ := hvl
          subst hvl1 hvl2
          by_cases h2 : (lvAt acc n).price = o.price
          · have HS : Hid (depStep acc o = acc.set n (incL (lvAt acc n) o)) := by
              have := step_same (acc := acc) hm (by omega) (by rw [hN, Nat.add_sub_cancel]; exact h2)
              rw [hN, Nat.add_sub_cancel] at this
              exact this
            rw [h2] at c0
            clear f1 f2
            go_quiet (fail)
            go_wp2_with fail
            have hbd := below_drewN (Below.refl W.heap.size W) nq
            have hoV := bk_below hoA hbd (Nat.le_refl _)
            have hAV := (hbd.block wr.heap.size (lt_of_block hA)).trans hA
            have hbV := hbA.trans (hbd.mono hbA.size)
            generalize W.drewN nq = V at hoV hAV hbV ⊢
            clear hbd hoA hA hbA c0 c1 c2 e3 e4
            rw [← hN] at hoV
            obtain ⟨gl', cl', hvl, c0, c1, c2, f1, f2⟩ := row_last hoV (k := n) (by omega)
            rw [hN] at hoV
            simp only [Value.slice.injEq, Option.some.injEq, Addr.mk.injEq, and_true, true_and, hN] at hvl
            obtain ⟨hvl1, hvl2⟩ := hvl
            subst hvl1 hvl2
            have e4 := blk_cellB (j := 4) hAV rfl
            have hne : wr.heap.size ≠ gl := fun e => bk_ne hoV hAV (by decide) (by rw [e]; rfl)
            go_region
            go_wp2_with fail
            have hgl : w1.heap.size ≤ gl := (hoV.lt gl rfl).1
            have h5 : World.ownsRow V w1.heap.size 80 3 (.slice (some ⟨gl, 0, none⟩) (n + 1) vcap) acc.length (lvV acc) := by rw [hN]; exact hoV
            have h6 := row_inc (k := n) (q := (lvAt acc n).qty + o.qty) (m := (lvAt acc n).orders + 1) h5 (by omega)
            go_roundw
            case rel =>
              refine ⟨k + 1, hk1, by go_num, ((hbV.setCell (p := ⟨gl, n * 3 + 1, none⟩) hgl _).setCell (p := ⟨gl, n * 3 + 2, none⟩) hgl _).drew, ?_⟩
              rw [HT.out, HS.out]
              exact h6.drew
            case measure => simp [intOf]; omega
          · have h2b : ((lvAt acc n).price == o.price) = false := beq_eq_false_iff_ne.2 h2
            have HS : Hid (depStep acc o = acc ++ [⟨o.price, o.qty, 1⟩]) := step_other hm (fun e => h2 (by have := e.2; rwa [hN, Nat.add_sub_cancel] at this))
            go_quiet (fail)
            have hbd := below_drewN (Below.refl W.heap.size W) nq
            have hoV := bk_below hoA hbd (Nat.le_refl _)
            have hAV := (hbd.block wr.heap.size (lt_of_block hA)).trans hA
            have hbV := hbA.trans (hbd.mono hbA.size)
            generalize W.drewN nq = V at hoV hAV hbV ⊢
            clear hbd hoA hA hbA e3 e4 c0 c1 c2 f1 f2
            have e3 := blk_cellB (j := 3) hAV rfl
            have e4 := blk_cellB (j := 4) hAV rfl
            go_wp2_with (at_builtin; refine wpList_append_own_at _ rfl _ _ 75 rfl w1.heap.size 80 i0 (.agg #[.int .i64 0, .int .i64 0, .int .i64 0]) 3 24 Tryz.underlying75 hi hz0 hz1 hz2 rfl (by decide) _ (n + 1) (lvV acc) rfl (hoV.alloc _) ⟨V.heap.size, 0, none⟩ 1 1 [.int .i64 o.price, .int .i64 o.qty, .int .i64 1] rfl rfl (World.news_of_block (cs := #[.int .i64 o.price, .int .i64 o.qty, .int .i64 1]) (t := 80) (fr := (0, 0)) (heap_alloc_new V _)) (by simp [Value.oneCell']) (by unfold maxLen; omega) (by omega) (by have := hbV.size; simp; omega) ?_; intro v' w6 hown6 hgrow6 _ _)
            go_roundw
            case rel =>
              refine ⟨k + 1, hk1, by go_num, (hbV.alloc hbV.size _).grown hgrow6 (by have := hbV.size; simp; omega) (fun q hq => (hoV.lt q hq).1), ?_⟩
              rw [HT.out, HS.out, List.length_append, List.length_singleton, lvV_snoc, hN]
              exact hown6
            case measure => simp [intOf]; omega
        | zero =>
          go_wp2_with fail
          generalize wr.alloc (.cells #[.int .i64 o.id, .int .i64 o.side, .int .i64 o.kind, .int .i64 o.price, .int .i64 o.qty] 40) = W at hA hbA hoA ⊢
          have e3 := blk_cellB (j := 3) hA rfl
          have e4 := blk_cellB (j := 4) hA rfl
          have HS : Hid (depStep acc o = acc ++ [⟨o.price, o.qty, 1⟩]) := step_other hm (fun e => by omega)
          go_quiet (fail)
          have hbd := below_drewN (Below.refl W.heap.size W) nq
          have hoV := bk_below hoA hbd (Nat.le_refl _)
          have hAV := (hbd.block wr.heap.size (lt_of_block hA)).trans hA
          have hbV := hbA.trans (hbd.mono hbA.size)
          generalize W.drewN nq = V at hoV hAV hbV ⊢
          clear hbd hoA hA hbA e3 e4 
          have e3 := blk_cellB (j := 3) hAV rfl
          have e4 := blk_cellB (j := 4) hAV rfl
          go_wp2_with (at_builtin; refine wpList_append_own_at _ rfl _ _ 75 rfl w1.heap.size 80 i0 (.agg #[.int .i64 0, .int .i64 0, .int .i64 0]) 3 24 Tryz.underlying75 hi hz0 hz1 hz2 rfl (by decide) _ (0) (lvV acc) rfl (hoV.alloc _) ⟨V.heap.size, 0, none⟩ 1 1 [.int .i64 o.price, .int .i64 o.qty, .int .i64 1] rfl rfl (World.news_of_block (cs := #[.int .i64 o.price, .int .i64 o.qty, .int .i64 1]) (t := 80) (fr := (0, 0)) (heap_alloc_new V _)) (by simp [Value.oneCell']) (by unfold maxLen; omega) (by omega) (by have := hbV.size; simp; omega) ?_; intro v' w6 hown6 hgrow6 _ _)
          go_roundw
          case rel =>
            refine ⟨k + 1, hk1, by go_num, (hbV.alloc hbV.size _).grown hgrow6 (by have := hbV.size; simp; omega) (fun q hq => (hoV.lt q hq).1), ?_⟩
            rw [HT.out, HS.out, List.length_append, List.length_singleton, lvV_snoc, hN]
            exact hown6
          case measure => simp [intOf]; omega
    · obtain rfl : k = L.length := by omega
      go_wp2_with fail
      go_ret
      have h9 := HW.out.mono HB1.out.size
      rw [HLE.out]
      refine ⟨_, rfl, ?_, HB1.out.trans (HB.out.mono HB1.out.size)⟩
      show World.ownsRow _ _ _ _ (.slice vao (depth (L.take L.length)).length vcap) _ _
      rw [List.take_length] at h9 ⊢
      exact h9
end Go.Proofs.YtcoijhofliilmabGreatDoor
