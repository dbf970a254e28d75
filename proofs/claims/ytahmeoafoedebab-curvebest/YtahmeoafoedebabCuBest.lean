/-
  No price does more, as plain lists: at no price at all would more be traded than at the point that is chosen of a curve; and what is told of that point is what would be bought and sold there. No program is named here.
-/
import Derived.Test.YtahmeoafoedebabChPlain
namespace Go.Proofs.Ytahmeoafoedebab
open Go.RowKit

theorem sum_le {l : List Ord} {f g : Ord → Bool} (h : ∀ o ∈ l, f o = true → g o = true) (hq : ∀ o ∈ l, g o = true → 0 ≤ o.qty) : (l.map fun o => if f o = true then o.qty else 0).sum ≤ (l.map fun o => if g o = true then o.qty else 0).sum := by
  induction l with
  | nil => simp
  | cons o l ih =>
    have ih' := ih (fun o ho => h o (List.mem_cons_of_mem _ ho)) (fun o ho => hq o (List.mem_cons_of_mem _ ho))
    have h1 := h o (List.mem_cons_self ..)
    have h2 := hq o (List.mem_cons_self ..)
    rw [List.map_cons, List.map_cons, List.sum_cons, List.sum_cons]
    by_cases hf : f o = true
    · rw [if_pos hf, if_pos (h1 hf)]; omega
    · rw [if_neg hf]
      by_cases hg : g o = true
      · rw [if_pos hg]; have := h2 hg; omega
      · rw [if_neg hg]; omega
theorem dem_le {l : List Ord} {p q : Int} (h : ∀ o ∈ l, buysB p o = true → buysB q o = true) : demO p l ≤ demO q l :=
  sum_le h (fun o _ hb => by have := (okO_qty (buysB_ok hb)).2; omega)
theorem sup_le {l : List Ord} {p q : Int} (h : ∀ o ∈ l, sellsB p o = true → sellsB q o = true) : supO p l ≤ supO q l :=
  sum_le h (fun o _ hb => by have := (okO_qty (sellsB_ok hb)).2; omega)
/-- the greatest of those that are no greater than p, or none is -/
theorem top_below (p : Int) : ∀ l : List Int, (∀ x ∈ l, p < x) ∨ ∃ q ∈ l, q ≤ p ∧ ∀ x ∈ l, x ≤ p → x ≤ q
  | [] => Or.inl (fun x hx => by cases hx)
  | y :: l => by
    rcases top_below p l with h | ⟨q, hq, h1, h2⟩
    · by_cases hy : y ≤ p
      · refine Or.inr ⟨y, List.mem_cons_self .., hy, fun x hx hxp => ?_⟩
        rw [List.mem_cons] at hx
        rcases hx with rfl | hx
        · exact Int.le_refl _
        · have := h x hx; omega
      · refine Or.inl (fun x hx => ?_)
        rw [List.mem_cons] at hx
        rcases hx with rfl | hx
        · omega
        · exact h x hx
    · by_cases hy : y ≤ p ∧ q ≤ y
      · refine Or.inr ⟨y, List.mem_cons_self .., hy.1, fun x hx hxp => ?_⟩
        rw [List.mem_cons] at hx
        rcases hx with rfl | hx
        · exact Int.le_refl _
        · have := h2 x hx hxp; omega
      · refine Or.inr ⟨q, List.mem_cons_of_mem _ hq, h1, fun x hx hxp => ?_⟩
        rw [List.mem_cons] at hx
        rcases hx with rfl | hx
        · omega
        · exact h2 x hx hxp
theorem least_of : ∀ l : List Int, l ≠ [] → ∃ q ∈ l, ∀ x ∈ l, q ≤ x
  | [], h => absurd rfl h
  | [y], _ => ⟨y, List.mem_cons_self .., fun x hx => by rw [List.mem_singleton] at hx; omega⟩
  | y :: z :: l, _ => by
    obtain ⟨q, hq, h1⟩ := least_of (z :: l) (by simp)
    by_cases hy : y ≤ q
    · refine ⟨y, List.mem_cons_self .., fun x hx => ?_⟩
      rw [List.mem_cons] at hx
      rcases hx with rfl | hx
      · exact Int.le_refl _
      · have := h1 x hx; omega
    · refine ⟨q, List.mem_cons_of_mem _ hq, fun x hx => ?_⟩
      rw [List.mem_cons] at hx
      rcases hx with rfl | hx
      · omega
      · exact h1 x hx
theorem buysB_iff {p : Int} {o : Ord} : buysB p o = true ↔ (okO o = true ∧ o.side = 1 ∧ (o.kind = 2 ∨ p ≤ o.price)) := by unfold buysB; simp
theorem sellsB_iff {p : Int} {o : Ord} : sellsB p o = true ↔ (okO o = true ∧ o.side = 2 ∧ (o.kind = 2 ∨ o.price ≤ p)) := by unfold sellsB; simp
theorem names_mem {l : List Ord} {more : Int} {o : Ord} (ho : o ∈ l) (h : okO o = true) (hk : ¬ o.kind = 2) : o.price ∈ pricesO l more :=
  pricesO_mem.2 (Or.inr ⟨o, ho, by unfold namesO; simp [h, hk], rfl⟩)
/-- beside each price there is one of the curve's at which no less is bought, and no less is sold -/
theorem near_price {l : List Ord} {more : Int} (p : Int) (hne : pricesO l more ≠ []) : ∃ q ∈ pricesO l more, demO p l ≤ demO q l ∧ supO p l ≤ supO q l := by
  rcases top_below p (pricesO l more) with h | ⟨q, hq, h1, h2⟩
  · obtain ⟨q, hq, h1⟩ := least_of _ hne
    refine ⟨q, hq, dem_le fun o ho hb => ?_, sup_le fun o ho hb => ?_⟩
    · obtain ⟨a1, a2, a3⟩ := buysB_iff.1 hb
      refine buysB_iff.2 ⟨a1, a2, ?_⟩
      by_cases hk : o.kind = 2
      · exact Or.inl hk
      · exact Or.inr (h1 _ (names_mem ho a1 hk))
    · obtain ⟨a1, a2, a3⟩ := sellsB_iff.1 hb
      refine sellsB_iff.2 ⟨a1, a2, ?_⟩
      by_cases hk : o.kind = 2
      · exact Or.inl hk
      · have := h _ (names_mem (more := more) ho a1 hk)
        rcases a3 with a3 | a3
        · exact absurd a3 hk
        · omega
  · refine ⟨q, hq, dem_le fun o ho hb => ?_, sup_le fun o ho hb => ?_⟩
    · obtain ⟨a1, a2, a3⟩ := buysB_iff.1 hb
      exact buysB_iff.2 ⟨a1, a2, a3.imp id (fun h => by omega)⟩
    · obtain ⟨a1, a2, a3⟩ := sellsB_iff.1 hb
      refine sellsB_iff.2 ⟨a1, a2, ?_⟩
      by_cases hk : o.kind = 2
      · exact Or.inl hk
      · rcases a3 with a3 | a3
        · exact absurd a3 hk
        · exact Or.inr (h2 _ (names_mem ho a1 hk) a3)
theorem curve_mem {l : List Ord} {more q : Int} (h : q ∈ pricesO l more) : (⟨q, demO q l, supO q l⟩ : Pt) ∈ curveL l more :=
  List.mem_map.2 ⟨q, by rw [uniqL_mem (sortI_sorted _), sortI_mem]; exact h, rfl⟩
theorem curve_pt {l : List Ord} {more : Int} {x : Pt} (h : x ∈ curveL l more) : x.dem = demO x.price l ∧ x.sup = supO x.price l ∧ x.price ∈ pricesO l more := by
  obtain ⟨q, hq, rfl⟩ := List.mem_map.1 h
  rw [uniqL_mem (sortI_sorted _), sortI_mem] at hq
  exact ⟨rfl, rfl, hq⟩
theorem choose_qty (l : List Pt) (around : Int) : (chooseL l around).qty = (if mostL l < 1 then 0 else mostL l) := by
  unfold chooseL
  by_cases h : mostL l < 1
  · rw [if_pos h, if_pos h]
  · rw [if_neg h, if_neg h]
    exact (chosen_mem around (by omega)).2
/-- NO PRICE DOES MORE -/
theorem curve_best {l : List Ord} {more : Int} (around p : Int) (hne : pricesO l more ≠ []) : min (demO p l) (supO p l) ≤ (chooseL (curveL l more) around).qty := by
  obtain ⟨q, hq, h1, h2⟩ := near_price (l := l) (more := more) p hne
  have h3 : trB ⟨q, demO q l, supO q l⟩ ≤ mostL (curveL l more) := mostL_max (curve_mem hq)
  have h4 : trB ⟨q, demO q l, supO q l⟩ = min (demO q l) (supO q l) := rfl
  rw [choose_qty]
  split <;> omega
/-- what is told of the chosen price is what would be bought, and sold, there -/
theorem curve_told {l : List Ord} {more : Int} (around : Int) (h : 0 < (chooseL (curveL l more) around).qty) :
    (chooseL (curveL l more) around).qty = min (demO (chooseL (curveL l more) around).price l) (supO (chooseL (curveL l more) around).price l) ∧ (chooseL (curveL l more) around).sur = demO (chooseL (curveL l more) around).price l - supO (chooseL (curveL l more) around).price l := by
  have hm : ¬ mostL (curveL l more) < 1 := fun e => by
    rw [choose_qty, if_pos e] at h; omega
  have hc : chooseL (curveL l more) around = quoP (chosenP (curveL l more) around) := if_neg hm
  obtain ⟨h1, _⟩ := chosen_mem (l := curveL l more) around (by omega)
  obtain ⟨e1, e2, _⟩ := curve_pt h1
  rw [hc]
  unfold quoP trB
  dsimp only
  rw [e1, e2]
  exact ⟨rfl, rfl⟩
theorem prices_some {l : List Ord} {more : Int} (h : 0 < more) : pricesO l more ≠ [] := fun e => by
  have : more ∈ pricesO l more := pricesO_mem.2 (Or.inl ⟨h, rfl⟩)
  rw [e] at this; cases this
theorem curve_small {l : List Ord} {more : Int} (hl : l.length ≤ 1000) (hp : ∀ o ∈ l, -1099511627776 ≤ o.price ∧ o.price ≤ 1099511627776) (hm : more ≤ 1099511627776) : ∀ x ∈ curveL l more, x.Small := fun x hx => by
  obtain ⟨e1, e2, h3⟩ := curve_pt hx
  have a1 := demO_in x.price l
  have a2 := supO_in x.price l
  refine ⟨?_, by rw [e1]; omega, by rw [e2]; omega⟩
  rcases pricesO_mem.1 h3 with ⟨h4, h5⟩ | ⟨o, ho, _, h5⟩
  · omega
  · rw [← h5]; exact hp o ho
theorem curve_len (l : List Ord) (more : Int) : (curveL l more).length ≤ l.length + 1 := by
  unfold curveL uniqL
  rw [List.length_map]
  have h1 := uniqK_len (sortI (pricesO l more)) (sortI (pricesO l more)).length
  have h2 := sortI_length (pricesO l more)
  have h3 := pricesO_len l more
  omega
end Go.Proofs.Ytahmeoafoedebab
