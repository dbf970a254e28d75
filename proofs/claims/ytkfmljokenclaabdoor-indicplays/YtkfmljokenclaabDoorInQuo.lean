/-
  What the program's Quote returns of an Indic that has just the lots of some orders, over this seat's translation; and that around any number below 1 the choice is as around 0. Conditions stand in each theorem.
-/
import Derived.Test.YtkfmljokenclaabDoorInPts
import Derived.Test.YtkfmljokenclaabDoorChProgW
namespace Go.Proofs.YtkfmljokenclaabDoor
open Go.RowKit

theorem better_shift {b s : Bool} {a : Int} (ha : a ≤ 0) {p x : Pt} (hp : 0 ≤ p.price) (hx : 0 ≤ x.price) : betterB b s a p x = betterB b s 0 p x := by
  have e1 : absI (p.price - a) = p.price - a := if_neg (by omega)
  have e2 : absI (x.price - a) = x.price - a := if_neg (by omega)
  have e3 : absI (p.price - 0) = p.price := by rw [Int.sub_zero]; exact if_neg (by omega)
  have e4 : absI (x.price - 0) = x.price := by rw [Int.sub_zero]; exact if_neg (by omega)
  unfold betterB
  rw [e1, e2, e3, e4]
  congr 2
  have d1 : decide (p.price - a < x.price - a) = decide (p.price < x.price) := by rw [decide_eq_decide]; omega
  have d2 : (p.price - a == x.price - a) = (p.price == x.price) := by rw [Bool.eq_iff_iff, beq_iff_eq, beq_iff_eq]; omega
  rw [d1, d2]
theorem foldl_shift (b s : Bool) {a : Int} (ha : a ≤ 0) : ∀ (l : List Pt) (acc : Pt), (∀ x ∈ l, 0 ≤ x.price) → 0 ≤ acc.price → l.foldl (takeB b s a) acc = l.foldl (takeB b s 0) acc
  | [], _, _, _ => rfl
  | x :: l, acc, h, h0 => by
    have hx := h x (List.mem_cons_self ..)
    have e : takeB b s a acc x = takeB b s 0 acc x := by unfold takeB; rw [better_shift ha hx h0]
    rw [List.foldl_cons, List.foldl_cons, e]
    refine foldl_shift b s ha l _ (fun y hy => h y (List.mem_cons_of_mem _ hy)) ?_
    unfold takeB
    split
    · exact hx
    · exact h0
theorem choose_shift {l : List Pt} {a : Int} (ha : a ≤ 0) (h : ∀ x ∈ l, 0 ≤ x.price) : chooseL l a = chooseL l 0 := by
  unfold chooseL chosenP pickL
  have hb : ∀ x ∈ bestL (mostL l) (leastL (mostL l) l).1 l, 0 ≤ x.price := fun x hx => h x (List.mem_filter.1 hx).1
  generalize bestL (mostL l) (leastL (mostL l) l).1 l = best at hb
  rw [foldl_shift _ _ ha best _ hb]
  by_cases h0 : 0 < best.length
  · exact hb _ (ptAt_mem h0)
  · rw [show ptAt best 0 = Pt.none_ by unfold ptAt; rw [List.length_eq_zero_iff.1 (show best.length = 0 by omega)]; rfl]
    exact Int.le_refl _
theorem curve_shift {G : List Ord} {a : Int} (ha : a ≤ 0) : curveL G a = curveL G 0 := by
  unfold curveL pricesO
  rw [if_neg (by omega), if_neg (by omega)]
theorem curve_mem {G : List Ord} {more : Int} {x : Pt} (h : x ∈ curveL G more) : x.price ∈ pricesO G more ∧ x.dem = demO x.price G ∧ x.sup = supO x.price G := by
  unfold curveL at h
  obtain ⟨p, hp, rfl⟩ := List.mem_map.1 h
  rw [uniqL_mem (sortI_sorted _), sortI_mem] at hp
  exact ⟨hp, rfl, rfl⟩
theorem curve_small {G : List Ord} {more : Int} (hl : G.length ≤ 1000) (hm : more ≤ 1000000) (hp : ∀ o ∈ G, namesO o = true → 0 ≤ o.price ∧ o.price ≤ 1000000) : ∀ x ∈ curveL G more, x.Small ∧ 0 ≤ x.price := fun x hx => by
  obtain ⟨h1, h2, h3⟩ := curve_mem hx
  have d := demO_in x.price G
  have s := supO_in x.price G
  have hpr : 0 ≤ x.price ∧ x.price ≤ 1000000 := by
    rw [pricesO_mem] at h1
    rcases h1 with ⟨h4, h5⟩ | ⟨o, ho, hn, e⟩
    · omega
    · have := hp o ho hn; omega
  exact ⟨⟨by omega, by omega, by omega⟩, hpr.1⟩
theorem quote_max {G : List Ord} {a : Int} (hl : G.length ≤ 1000) (ha : a ≤ 1000000) (hp : ∀ o ∈ G, namesO o = true → 0 ≤ o.price ∧ o.price ≤ 1000000) : chooseL (curveL G (max a 0)) (max a 0) = chooseL (curveL G a) a := by
  by_cases h : 0 ≤ a
  · rw [show max a 0 = a by omega]
  · rw [show max a 0 = 0 by omega, curve_shift (a := a) (by omega)]
    exact (choose_shift (by omega) (fun x hx => (curve_small hl (by omega) hp x hx).2)).symm
theorem curve_len (G : List Ord) (more : Int) : (curveL G more).length ≤ G.length + 1 := by
  unfold curveL uniqL
  rw [List.length_map]
  have h1 := uniqK_len (sortI (pricesO G more)) (sortI (pricesO G more)).length
  rw [sortI_length] at h1
  rw [sortI_length]
  have := pricesO_len G more
  omega

set_option maxRecDepth 4000 in
set_option maxHeartbeats 4000000 in
theorem inQuote (xb : Nat) (v : Value) (G : List Ord) (m : Nat) (around : Int) (w : World) (h : IndAt w xb v (fun p => sumQ (limBB p) G) (fun p => sumQ (limSB p) G) (sumQ mkBB G) (sumQ mkSB G) m) (hm : m < 1000) (hG : ∀ o ∈ G, okO o = true) (hl : G.length ≤ 900) (ha : -1099511627776 ≤ around ∧ around ≤ 1000000) (hp : ∀ o ∈ G, namesO o = true → 0 ≤ o.price ∧ o.price ≤ 1000000) :
    Calls Tryd.prog 11 #[.pointer (some ⟨xb, 0, none⟩), .int .i64 around] w fun e w' => e = .returned (.agg #[.int .i64 (chooseL (curveL G around) around).price, .int .i64 (chooseL (curveL G around) around).qty, .int .i64 (chooseL (curveL G around) around).sur]) ∧ Below w.heap.size w w' := by
  have HQ : Hid (chooseL (curveL G around) around = chooseL (curveL G (max around 0)) (max around 0)) := (quote_max (by omega) ha.2 hp).symm
  have HX : Hid (IndAt w xb v (fun p => sumQ (limBB p) G) (fun p => sumQ (limSB p) G) (sumQ mkBB G) (sumQ mkSB G) m) := h
  have HG : Hid (∀ o ∈ G, okO o = true) := hG
  have HS : Hid (∀ x ∈ curveL G (max around 0), x.Small) := fun x hx => (curve_small (by omega) (by omega) hp x hx).1
  have hcl := curve_len G (max around 0)
  clear h hG hp
  go_enter Tryd.func11, Tryd.ntmps11
  go_wp2_with fail
  have hbA := bel1 w (.cells #[.int .i64 0, .int .i64 0, .int .i64 0] 48)
  have hA := heap_alloc_new w (.cells #[.int .i64 0, .int .i64 0, .int .i64 0] 48)
  generalize w.alloc (.cells #[.int .i64 0, .int .i64 0, .int .i64 0] 48) = W at hbA hA ⊢
  refine (inPoints xb v G m (max around 0) W (HX.out.below hbA) hm HG.out (by omega)).mono ?_
  rintro e w1 ⟨v1, rfl, hrow1, hb1⟩
  obtain ⟨a1, cap1, rfl, hin1⟩ := PtsIn.of_row hrow1
  have HI1 : Hid (PtsIn w1 a1 (curveL G (max around 0))) := hin1
  have hA1 := blk_below hA hb1 (Nat.le_refl _)
  have HB1 : Hid (Below w.heap.size w w1) := bel_then hbA hb1
  clear hrow1 hin1 hb1 hA hbA
  go_wp2_with fail
  refine (prChoose a1 cap1 _ (max around 0) w1 HI1.out (by omega) HS.out (by omega)).mono ?_
  rintro e w2 ⟨rfl, hb2⟩
  have hA2 := blk_below hA1 hb2 (Nat.le_refl _)
  have HB2 : Hid (Below w.heap.size w w2) := bel_then HB1.out hb2
  have q0 := blk_cell (j := 0) hA2 rfl
  have q1 := blk_cell (j := 1) hA2 rfl
  have q2 := blk_cell (j := 2) hA2 rfl
  have f0 := blk_free (j := 0) hA2
  have f1 := blk_free (j := 1) hA2
  have f2 := blk_free (j := 2) hA2
  clear hA1 hA2 hb2
  rw [← HQ.out]
  go_wp2_with fail
  refine bodyPost_ret (by simp [results, Tryd.results11, go_sem, q0, q1, q2]; try rfl) rfl ?_
  exact ⟨rfl, ((HB2.out.setCell (Nat.le_refl _) _).setCell (Nat.le_refl _) _).setCell (Nat.le_refl _) _⟩
end Go.Proofs.YtkfmljokenclaabDoor
