/-
  What a row of levels tells of the lots at each price, and what becomes of it when lots come and go. No program is named here.
-/
import Derived.Test.YtkfmljokenclaabDoorInLv
namespace Go.Proofs.YtkfmljokenclaabDoor
open Go.RowKit

/-- the row tells just the lots b (bought) and s (sold) of each price -/
structure LvInv (l : List Lv) (b s : Int → Int) : Prop where
  rises : RiseL l
  here : ∀ x ∈ l, x.buy = b x.price ∧ x.sell = s x.price
  some : ∀ p, (b p ≠ 0 ∨ s p ≠ 0) → ∃ x ∈ l, x.price = p
  lots : ∀ x ∈ l, x.buy ≠ 0 ∨ x.sell ≠ 0
theorem LvInv.start : LvInv [] (fun _ => 0) (fun _ => 0) := ⟨List.Pairwise.nil, fun _ h => (by cases h), fun _ h => (by simp at h), fun _ h => (by cases h)⟩
def upI (f : Int → Int) (p v : Int) : Int → Int := fun x => if x = p then v else f x
theorem upI_same (f : Int → Int) (p v : Int) : upI f p v p = v := if_pos rfl
theorem upI_other {f : Int → Int} {p x : Int} (v : Int) (h : x ≠ p) : upI f p v x = f x := if_neg h
theorem upI_self (f : Int → Int) (p : Int) : upI f p (f p) = f := by
  funext x
  by_cases e : x = p
  · subst e; exact upI_same ..
  · exact upI_other _ e
theorem LvInv.no {l : List Lv} {b s : Int → Int} (h : LvInv l b s) {p : Int} (hn : hasL p l = false) : b p = 0 ∧ s p = 0 := by
  have hx : ¬ ∃ x ∈ l, x.price = p := fun hx => by rw [(hasL_iff h.rises).2 hx] at hn; cases hn
  refine ⟨Decidable.byContradiction fun e => hx (h.some p (Or.inl e)), Decidable.byContradiction fun e => hx (h.some p (Or.inr e))⟩
theorem hasL_pos {p : Int} {l : List Lv} (h : hasL p l = true) : posL p l < l.length ∧ (lvAt l (posL p l)).price = p := by
  unfold hasL at h
  rw [Bool.and_eq_true, decide_eq_true_iff, beq_iff_eq] at h
  exact h
theorem LvInv.yes {l : List Lv} {b s : Int → Int} (h : LvInv l b s) {p : Int} (hy : hasL p l = true) : posL p l < l.length ∧ (lvAt l (posL p l)).price = p ∧ (lvAt l (posL p l)).buy = b p ∧ (lvAt l (posL p l)).sell = s p := by
  obtain ⟨h1, h2⟩ := hasL_pos hy
  obtain ⟨h3, h4⟩ := h.here _ (lvAt_mem h1)
  rw [h2] at h3 h4
  exact ⟨h1, h2, h3, h4⟩
/-- a price among them, which may have no lots -/
theorem LvInv.with {l : List Lv} {b s : Int → Int} (h : LvInv l b s) (p : Int) : RiseL (withL p l) ∧ (∀ x ∈ withL p l, x.buy = b x.price ∧ x.sell = s x.price) ∧ (∀ q, (∃ x ∈ withL p l, x.price = q) ↔ (q = p ∨ b q ≠ 0 ∨ s q ≠ 0)) ∧ hasL p (withL p l) = true ∧ (∀ x ∈ withL p l, x.price = p ∨ x.buy ≠ 0 ∨ x.sell ≠ 0) := by
  refine ⟨withL_rises h.rises, fun x hx => ?_, fun q => ?_, withL_has h.rises, fun x hx => ?_⟩
  · unfold withL at hx
    split at hx
    · exact h.here x hx
    · rename_i hn
      rw [insLv_mem] at hx
      rcases hx with rfl | hx
      · have := h.no (p := p) (by simpa using hn); exact ⟨this.1.symm, this.2.symm⟩
      · exact h.here x hx
  · rw [withL_mem h.rises]
    constructor
    · rintro (e | ⟨x, hx, rfl⟩)
      · exact Or.inl e
      · obtain ⟨h1, h2⟩ := h.here x hx
        rw [← h1, ← h2]
        exact Or.inr (h.lots x hx)
    · rintro (e | e)
      · exact Or.inl e
      · exact Or.inr (h.some q e)
  · unfold withL at hx
    split at hx
    · exact Or.inr (h.lots x hx)
    · rw [insLv_mem] at hx
      rcases hx with rfl | hx
      · exact Or.inl rfl
      · exact Or.inr (h.lots x hx)
theorem set_rises {l : List Lv} (h : RiseL l) {i : Nat} {y : Lv} (hy : y.price = (lvAt l i).price) : RiseL (l.set i y) := by
  unfold RiseL
  rw [List.pairwise_iff_getElem]
  intro a c ha hc hac
  have hla : a < l.length := by simpa using ha
  have hlc : c < l.length := by simpa using hc
  have e : ∀ k (hk : k < l.length), ((l.set i y)[k]'(by simpa using hk)).price = (lvAt l k).price := fun k hk => by
    rw [List.getElem_set]
    split
    · rename_i e; subst e; exact hy
    · rw [lvAt_eq hk]
  rw [e a hla, e c hlc]
  exact h.at hac hlc
theorem set_mem {l : List Lv} {i : Nat} {x y : Lv} (h : x ∈ l.set i y) : x = y ∨ ∃ k, k < l.length ∧ k ≠ i ∧ x = lvAt l k := by
  obtain ⟨k, hk, rfl⟩ := List.mem_iff_getElem.1 h
  rw [List.length_set] at hk
  rw [List.getElem_set]
  split
  · exact Or.inl rfl
  · rename_i e; exact Or.inr ⟨k, hk, fun e' => e e'.symm, (lvAt_eq hk).symm⟩
theorem rise_ne {l : List Lv} (h : RiseL l) {i k : Nat} (hi : i < l.length) (hk : k < l.length) (hne : k ≠ i) : (lvAt l k).price ≠ (lvAt l i).price := by
  rcases Nat.lt_or_gt_of_ne hne with h1 | h1
  · have := h.at h1 hi; omega
  · have := h.at h1 hk; omega
/-- the lots of a price are others now: where some are left -/
theorem LvInv.put {l : List Lv} {b s : Int → Int} (h : LvInv l b s) (p b' s' : Int) (hne : b' ≠ 0 ∨ s' ≠ 0) : LvInv ((withL p l).set (posL p (withL p l)) ⟨p, b', s'⟩) (upI b p b') (upI s p s') := by
  obtain ⟨h1, h2, h3, h4, h5⟩ := h.with p
  obtain ⟨hi, hp⟩ := hasL_pos h4
  generalize withL p l = l1 at h1 h2 h3 h4 h5 hi hp ⊢
  generalize posL p l1 = i at hi hp ⊢
  have hother : ∀ k, k < l1.length → k ≠ i → (lvAt l1 k).price ≠ p := fun k hk hne' => by rw [← hp]; exact rise_ne h1 hi hk hne'
  refine ⟨set_rises h1 hp.symm, fun x hx => ?_, fun q hq => ?_, fun x hx => ?_⟩
  · rcases set_mem hx with rfl | ⟨k, hk, hki, rfl⟩
    · exact ⟨(upI_same ..).symm, (upI_same ..).symm⟩
    · rw [upI_other _ (hother k hk hki), upI_other _ (hother k hk hki)]
      exact h2 _ (lvAt_mem hk)
  · by_cases e : q = p
    · subst e; exact ⟨⟨q, b', s'⟩, List.mem_iff_getElem.2 ⟨i, by simpa using hi, by simp⟩, rfl⟩
    · rw [upI_other _ e, upI_other _ e] at hq
      obtain ⟨x, hx, rfl⟩ := (h3 q).2 (Or.inr hq)
      obtain ⟨k, hk, rfl⟩ := List.mem_iff_getElem.1 hx
      have hki : k ≠ i := fun e' => by subst e'; rw [lvAt_eq hk] at hp; exact e hp
      exact ⟨l1[k], List.mem_iff_getElem.2 ⟨k, by simpa using hk, by simp [Ne.symm hki]⟩, rfl⟩
  · rcases set_mem hx with rfl | ⟨k, hk, hki, rfl⟩
    · exact hne
    · rcases h5 _ (lvAt_mem hk) with e | e
      · exact absurd e (hother k hk hki)
      · exact e
theorem erase_mem {l : List Lv} {i : Nat} {x : Lv} (h : x ∈ l.eraseIdx i) : ∃ k, k < l.length ∧ k ≠ i ∧ x = lvAt l k := by
  rw [List.mem_eraseIdx_iff_getElem] at h
  obtain ⟨k, hk, hne, rfl⟩ := h
  exact ⟨k, hk, hne, (lvAt_eq hk).symm⟩
/-- none are left: the price goes -/
theorem LvInv.gone {l : List Lv} {b s : Int → Int} (h : LvInv l b s) (p : Int) : LvInv (((withL p l).set (posL p (withL p l)) ⟨p, 0, 0⟩).eraseIdx (posL p (withL p l))) (upI b p 0) (upI s p 0) := by
  obtain ⟨h1, h2, h3, h4, h5⟩ := h.with p
  obtain ⟨hi, hp⟩ := hasL_pos h4
  generalize withL p l = l1 at h1 h2 h3 h4 h5 hi hp ⊢
  generalize posL p l1 = i at hi hp ⊢
  have hother : ∀ k, k < l1.length → k ≠ i → (lvAt l1 k).price ≠ p := fun k hk hne' => by rw [← hp]; exact rise_ne h1 hi hk hne'
  have hset : (l1.set i ⟨p, 0, 0⟩).eraseIdx i = l1.eraseIdx i := by
    rw [List.eraseIdx_eq_take_drop_succ, List.eraseIdx_eq_take_drop_succ, List.take_set_of_le (by omega), List.drop_set_of_lt (by omega)]
  rw [hset]
  refine ⟨h1.sublist (List.eraseIdx_sublist _ _), fun x hx => ?_, fun q hq => ?_, fun x hx => ?_⟩
  · obtain ⟨k, hk, hki, rfl⟩ := erase_mem hx
    rw [upI_other _ (hother k hk hki), upI_other _ (hother k hk hki)]
    exact h2 _ (lvAt_mem hk)
  · by_cases e : q = p
    · subst e; rw [upI_same, upI_same] at hq; simp at hq
    · rw [upI_other _ e, upI_other _ e] at hq
      obtain ⟨x, hx, rfl⟩ := (h3 q).2 (Or.inr hq)
      obtain ⟨k, hk, rfl⟩ := List.mem_iff_getElem.1 hx
      have hki : k ≠ i := fun e' => by subst e'; rw [lvAt_eq hk] at hp; exact e hp
      exact ⟨_, List.mem_eraseIdx_iff_getElem.2 ⟨k, hk, hki, rfl⟩, rfl⟩
  · obtain ⟨k, hk, hki, rfl⟩ := erase_mem hx
    rcases h5 _ (lvAt_mem hk) with e | e
    · exact absurd e (hother k hk hki)
    · exact e
end Go.Proofs.YtkfmljokenclaabDoor
