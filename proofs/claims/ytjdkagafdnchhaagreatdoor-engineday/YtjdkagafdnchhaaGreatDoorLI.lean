/-
  How many lots of each order Fills trades, as plain lists: what it had, less what is left. No program is named here.
-/
import Derived.Test.YtjdkagafdnchhaaGreatDoorLH
namespace Go.Proofs.YtjdkagafdnchhaaGreatDoor
open Go.RowKit

/-- the lots of whoever has this number -/
def lotsOf (id : Int) : List Ord → Int
  | [] => 0
  | o :: T => (if o.id = id then o.qty else 0) + lotsOf id T
theorem lots_none {id : Int} : ∀ {L : List Ord}, (∀ o ∈ L, o.id ≠ id) → lotsOf id L = 0
  | [], _ => rfl
  | o :: T, h => by rw [lotsOf, if_neg (h o (List.mem_cons_self ..)), lots_none (fun x hx => h x (List.mem_cons_of_mem _ hx))]; rfl
theorem lots_one : ∀ {L : List Ord} {o : Ord}, (L.map Ord.id).Nodup → o ∈ L → lotsOf o.id L = o.qty
  | z :: T, o, hn, ho => by
    rw [List.map_cons, List.nodup_cons] at hn
    rcases List.mem_cons.1 ho with rfl | ho
    · rw [lotsOf, if_pos rfl, lots_none (fun x hx e => hn.1 (by rw [← e]; exact List.mem_map_of_mem hx)), Int.add_zero]
    · have hne : z.id ≠ o.id := fun e => hn.1 (by rw [e]; exact List.mem_map_of_mem ho)
      rw [lotsOf, if_neg hne, lots_one hn.2 ho, Int.zero_add]
theorem less_cons (id n : Int) (o : Ord) (T : List Ord) : lessF id n (o :: T) = (if 0 < (cutF id n o).qty then [cutF id n o] else []) ++ lessF id n T := by
  unfold lessF
  rw [List.map_cons]
  by_cases h : 0 < (cutF id n o).qty
  · rw [List.filter_cons_of_pos (by simpa using h), if_pos h]; rfl
  · rw [List.filter_cons_of_neg (by simpa using h), if_neg h]; rfl
theorem lots_other {id id' n : Int} (hne : id' ≠ id) : ∀ {L : List Ord}, (∀ o ∈ L, 1 ≤ o.qty) → lotsOf id' (lessF id n L) = lotsOf id' L
  | [], _ => rfl
  | o :: T, h => by
    have ih := lots_other (n := n) hne (L := T) (fun x hx => h x (List.mem_cons_of_mem _ hx))
    have ho := h o (List.mem_cons_self ..)
    rw [less_cons]
    by_cases e : o.id = id
    · have e2 : ¬ o.id = id' := fun e' => hne (e'.symm.trans e)
      have e3 : ¬ (cutF id n o).id = id' := by rw [cutF_id]; exact e2
      rw [lotsOf, if_neg e2, ← ih]
      split
      · rw [List.singleton_append, lotsOf, if_neg e3]
      · rw [List.nil_append]; omega
    · rw [cutF_qty e, if_pos (by omega), List.singleton_append, lotsOf, lotsOf, ih]
theorem lots_hit {n : Int} : ∀ {L : List Ord} {o : Ord}, (L.map Ord.id).Nodup → (∀ x ∈ L, 1 ≤ x.qty) → o ∈ L → n ≤ o.qty → lotsOf o.id (lessF o.id n L) = lotsOf o.id L - n
  | z :: T, o, hn, hq, ho, hle => by
    rw [List.map_cons, List.nodup_cons] at hn
    have hqT : ∀ x ∈ T, 1 ≤ x.qty := fun x hx => hq x (List.mem_cons_of_mem _ hx)
    rw [less_cons]
    rcases List.mem_cons.1 ho with rfl | ho
    · have hT : ∀ x ∈ T, x.id ≠ o.id := fun x hx e => hn.1 (by rw [← e]; exact List.mem_map_of_mem hx)
      have e0 : lessF o.id n T = T := less_none hT hqT
      have eq : (cutO n o).qty = o.qty - n := rfl
      have ei : (cutO n o).id = o.id := rfl
      rw [e0, cutF_hit, lotsOf, if_pos rfl, lots_none hT]
      split
      · rw [List.singleton_append, lotsOf, if_pos ei, lots_none hT, eq]; omega
      · rw [List.nil_append, lots_none hT]; omega
    · have hne : z.id ≠ o.id := fun e => hn.1 (by rw [e]; exact List.mem_map_of_mem ho)
      have ih := lots_hit hn.2 hqT ho hle
      rw [cutF_qty hne, if_pos (by have := hq z (List.mem_cons_self ..); omega), List.singleton_append, lotsOf, lotsOf, if_neg hne, ih]
      omega
/-- lots that somebody traded, bought or sold -/
def trdF (id : Int) : List Fil → Int
  | [] => 0
  | f :: T => (if f.buyer = id ∨ f.seller = id then f.qty else 0) + trdF id T
theorem trd_snoc (id : Int) (f : Fil) : ∀ l : List Fil, trdF id (l ++ [f]) = trdF id l + (if f.buyer = id ∨ f.seller = id then f.qty else 0)
  | [] => by show trdF id [f] = 0 + _; rw [trdF, trdF]; omega
  | g :: T => by rw [List.cons_append, trdF, trdF, trd_snoc id f T]; omega
/-- who traded has so many lots less -/
theorem fiter_trd {p : Int} {L : List Ord} {q : Int} (h : FOk p ⟨[], L, q⟩) (id : Int) : ∀ k, (∀ j, j < k → 0 < (fiter p ⟨[], L, q⟩ j).q) → trdF id (fiter p ⟨[], L, q⟩ k).fs = lotsOf id L - lotsOf id (fiter p ⟨[], L, q⟩ k).L
  | 0, _ => by show (0 : Int) = lotsOf id L - lotsOf id L; omega
  | k + 1, hq => by
    have hk : ∀ j, j < k → 0 < (fiter p ⟨[], L, q⟩ j).q := fun j hj => hq j (by omega)
    have ih := fiter_trd h id k hk
    have hO := fiter_ok h k hk
    obtain ⟨⟨x, T, y, U, hS1, hS2, hbx, hby, hxL, hyL, hyl, n1, n2, n3, n4, _, hL, _, _, ok1⟩, _⟩ := fstep_ok hO (hq k (by omega))
    have hx1 : x ∈ sideO 1 (fiter p ⟨[], L, q⟩ k).L := by rw [hS1]; exact List.mem_cons_self ..
    have hy2 : y ∈ sideO 2 (fiter p ⟨[], L, q⟩ k).L := by rw [hS2]; exact List.mem_cons_self ..
    have hne : x.id ≠ y.id := fun e => by
      have e1 := id_inj hO.ok.ids hxL hyL e
      have s1 := (sideO_mem.1 hx1).2
      have s2 := (sideO_mem.1 hy2).2
      rw [e1] at s1
      omega
    have eL : (fiter p ⟨[], L, q⟩ (k + 1)).L = lessF y.id (lotN (fiter p ⟨[], L, q⟩ k)) (lessF x.id (lotN (fiter p ⟨[], L, q⟩ k)) (fiter p ⟨[], L, q⟩ k).L) := hL
    have ef : (fiter p ⟨[], L, q⟩ (k + 1)).fs = (fiter p ⟨[], L, q⟩ k).fs ++ [⟨x.id, y.id, p, lotN (fiter p ⟨[], L, q⟩ k)⟩] := by
      show (fiter p ⟨[], L, q⟩ k).fs ++ [_] = _
      rw [hbx, hby]
    have q0 : ∀ o ∈ (fiter p ⟨[], L, q⟩ k).L, 1 ≤ o.qty := fun o ho => (hO.ok.ok o ho).2.2.1
    have q1 : ∀ o ∈ lessF x.id (lotN (fiter p ⟨[], L, q⟩ k)) (fiter p ⟨[], L, q⟩ k).L, 1 ≤ o.qty := fun o ho => (ok1.ok o ho).2.2.1
    rw [eL, ef, trd_snoc, ih]
    show lotsOf id L - lotsOf id (fiter p ⟨[], L, q⟩ k).L + (if x.id = id ∨ y.id = id then lotN (fiter p ⟨[], L, q⟩ k) else 0) = _
    by_cases ex : x.id = id
    · subst ex
      rw [if_pos (Or.inl rfl), lots_other hne q1, lots_hit hO.ok.ids q0 hxL n3]; omega
    · by_cases ey : y.id = id
      · subst ey
        rw [if_pos (Or.inr rfl), lots_hit ok1.ids q1 hyl n4, lots_other (fun e => hne e.symm) q0]; omega
      · rw [if_neg (fun e => e.elim ex ey), lots_other (fun e => ey e.symm) q1, lots_other (fun e => ex e.symm) q0]; omega
end Go.Proofs.YtjdkagafdnchhaaGreatDoor

/-
  Nobody is passed by: of a side that has lots off its front, who lies ahead of somebody that has lots less has none left. Plain lists; no program is named here.
-/
namespace Go.Proofs.YtjdkagafdnchhaaGreatDoor
open Go.RowKit

def sumO : List Ord → Int
  | [] => 0
  | o :: T => o.qty + sumO T
theorem sumO_nn : ∀ {l : List Ord}, (∀ o ∈ l, 1 ≤ o.qty) → 0 ≤ sumO l
  | [], _ => Int.le_refl _
  | o :: T, h => by
    have := sumO_nn (l := T) (fun x hx => h x (List.mem_cons_of_mem _ hx))
    have := h o (List.mem_cons_self ..)
    rw [sumO]; omega
theorem eat_mem : ∀ {Z : List Ord} {q : Int} {y : Ord}, y ∈ eatL q Z → ∃ x ∈ Z, x.id = y.id
  | [], _, _, h => by cases h
  | z :: Z, q, y, h => by
    rw [eatL] at h
    split at h
    · split at h
      · exact ⟨y, h, rfl⟩
      · rcases List.mem_cons.1 h with rfl | h
        · exact ⟨z, List.mem_cons_self .., rfl⟩
        · exact ⟨y, List.mem_cons_of_mem _ h, rfl⟩
    · obtain ⟨x, hx, e⟩ := eat_mem h
      exact ⟨x, List.mem_cons_of_mem _ hx, e⟩
theorem lots_eat_none {id : Int} {Z : List Ord} (h : ∀ x ∈ Z, x.id ≠ id) (q : Int) : lotsOf id (eatL q Z) = 0 := lots_none (fun y hy e => by
  obtain ⟨x, hx, e'⟩ := eat_mem hy
  exact h x hx (e'.trans e))
/-- what is left of somebody, by the lots of those ahead -/
theorem eat_lots : ∀ {A T : List Ord} {o : Ord} {q : Int}, ((A ++ o :: T).map Ord.id).Nodup → (∀ x ∈ A ++ o :: T, 1 ≤ x.qty) → 0 ≤ q →
    lotsOf o.id (eatL q (A ++ o :: T)) = if q ≤ sumO A then o.qty else if q < sumO A + o.qty then sumO A + o.qty - q else 0
  | [], T, o, q, hn, hq, h0 => by
    rw [List.nil_append] at hn hq ⊢
    have ho := hq o (List.mem_cons_self ..)
    have hn2 := hn
    rw [List.map_cons, List.nodup_cons] at hn
    have hT : ∀ x ∈ T, x.id ≠ o.id := fun x hx e => hn.1 (by rw [← e]; exact List.mem_map_of_mem hx)
    have hqT : ∀ x ∈ T, 1 ≤ x.qty := fun x hx => hq x (List.mem_cons_of_mem _ hx)
    rw [eatL, sumO]
    by_cases h1 : q < o.qty
    · rw [if_pos h1]
      by_cases h2 : q ≤ 0
      · rw [if_pos h2, if_pos h2, lots_one hn2 (List.mem_cons_self ..)]
      · have ei : (cutO q o).id = o.id := rfl
        have eq : (cutO q o).qty = o.qty - q := rfl
        rw [if_neg h2, if_neg h2, if_pos (show q < 0 + o.qty by omega), lotsOf, if_pos ei, lots_none hT, eq]; omega
    · rw [if_neg h1, if_neg (show ¬ q ≤ 0 by omega), if_neg (show ¬ q < 0 + o.qty by omega)]
      exact lots_eat_none hT (q - o.qty)
  | a :: A, T, o, q, hn, hq, h0 => by
    rw [List.cons_append] at hn hq ⊢
    have ha := hq a (List.mem_cons_self ..)
    have hn2 := hn
    rw [List.map_cons, List.nodup_cons] at hn
    have hoi : o ∈ A ++ o :: T := List.mem_append_right _ (List.mem_cons_self ..)
    have hne : ¬ a.id = o.id := fun e => hn.1 (by rw [e]; exact List.mem_map_of_mem hoi)
    have hqT : ∀ x ∈ A ++ o :: T, 1 ≤ x.qty := fun x hx => hq x (List.mem_cons_of_mem _ hx)
    have hA : 0 ≤ sumO A := sumO_nn (fun x hx => hqT x (List.mem_append_left _ hx))
    rw [eatL, sumO]
    by_cases h1 : q < a.qty
    · rw [if_pos h1, if_pos (show q ≤ a.qty + sumO A by omega)]
      by_cases h2 : q ≤ 0
      · rw [if_pos h2, lots_one hn2 (List.mem_cons_of_mem _ hoi)]
      · have ei : ¬ (cutO q a).id = o.id := hne
        rw [if_neg h2, lotsOf, if_neg ei, lots_one hn.2 hoi, Int.zero_add]
    · rw [if_neg h1, eat_lots hn.2 hqT (by omega)]
      by_cases h3 : q - a.qty ≤ sumO A
      · rw [if_pos h3, if_pos (show q ≤ a.qty + sumO A by omega)]
      · rw [if_neg h3, if_neg (show ¬ q ≤ a.qty + sumO A by omega)]
        by_cases h4 : q - a.qty < sumO A + o.qty
        · rw [if_pos h4, if_pos (show q < a.qty + sumO A + o.qty by omega)]; omega
        · rw [if_neg h4, if_neg (show ¬ q < a.qty + sumO A + o.qty by omega)]
end Go.Proofs.YtjdkagafdnchhaaGreatDoor

/-
  Nobody is passed by (8.1): of each side, whoever lies ahead of somebody that traded has traded all its lots; nobody trades more than it had. Plain lists; no program is named here.
-/
namespace Go.Proofs.YtjdkagafdnchhaaGreatDoor
open Go.RowKit

theorem lots_perm {id : Int} {l l' : List Ord} (h : l.Perm l') : lotsOf id l = lotsOf id l' := by
  induction h with
  | nil => rfl
  | cons x _ ih => rw [lotsOf, lotsOf, ih]
  | swap x y l => rw [lotsOf, lotsOf, lotsOf, lotsOf]; omega
  | trans _ _ i1 i2 => exact i1.trans i2
theorem lots_filter {id : Int} (f : Ord → Bool) : ∀ {l : List Ord}, (∀ o ∈ l, o.id = id → f o = true) → lotsOf id (l.filter f) = lotsOf id l
  | [], _ => rfl
  | o :: T, h => by
    have ih := lots_filter f (l := T) (fun x hx => h x (List.mem_cons_of_mem _ hx))
    by_cases hf : f o = true
    · rw [List.filter_cons_of_pos hf, lotsOf, lotsOf, ih]
    · have hne : ¬ o.id = id := fun e => hf (h o (List.mem_cons_self ..) e)
      rw [List.filter_cons_of_neg hf, lotsOf, if_neg hne, ih, Int.zero_add]
theorem lots_side {id s : Int} {l : List Ord} (h : ∀ o ∈ l, o.id = id → o.side = s) : lotsOf id (sideO s l) = lotsOf id l := by
  have h1 : lotsOf id (sideO s l) = lotsOf id (onSide s l) := lots_perm (ssort_perm (rankO s) (onSide s l))
  rw [h1]
  exact lots_filter _ (fun o ho e => by simpa using h o ho e)
/-- whoever lies came from the first list -/
theorem fiter_from {p : Int} {s : FS} (h : FOk p s) : ∀ k, (∀ j, j < k → 0 < (fiter p s j).q) → ∀ y ∈ (fiter p s k).L, ∃ x ∈ s.L, x.id = y.id ∧ x.side = y.side
  | 0, _ => fun y hy => ⟨y, hy, rfl, rfl⟩
  | k + 1, hq => fun y hy => by
    have hk : ∀ j, j < k → 0 < (fiter p s j).q := fun j hj => hq j (by omega)
    obtain ⟨⟨x, T, z, U, hr⟩, _⟩ := fstep_ok (fiter_ok h k hk) (hq k (by omega))
    have eL : (fiter p s (k + 1)).L = lessF z.id (lotN (fiter p s k)) (lessF x.id (lotN (fiter p s k)) (fiter p s k).L) := hr.2.2.2.2.2.2.2.2.2.2.2.2.1
    rw [eL] at hy
    obtain ⟨y1, hy1, e1, _⟩ := less_mem hy
    obtain ⟨y2, hy2, e2, _⟩ := less_mem hy1
    obtain ⟨x0, hx0, i1, i2⟩ := fiter_from h k hk y2 hy2
    refine ⟨x0, hx0, ?_, ?_⟩
    · rw [e1, cutF_id, e2, cutF_id]; exact i1
    · rw [e1, cutF_side, e2, cutF_side]; exact i2
section
variable {p q : Int} {L : List Ord} {k : Nat}
/-- lots traded by one of a side -/
theorem fair_trd (h : FOk p ⟨[], L, q⟩) (hq : ∀ j, j < k → 0 < (fiter p ⟨[], L, q⟩ j).q) {s : Int} (hs : s = 1 ∨ s = 2) {o : Ord} (ho : o ∈ sideO s L) :
    trdF o.id (fiter p ⟨[], L, q⟩ k).fs = o.qty - lotsOf o.id (eatL (q - (fiter p ⟨[], L, q⟩ k).q) (sideO s L)) := by
  obtain ⟨hoL, hos⟩ := sideO_mem.1 ho
  have e1 := fiter_trd h o.id k hq
  have e2 : sideO s (fiter p ⟨[], L, q⟩ k).L = eatL (q - (fiter p ⟨[], L, q⟩ k).q) (sideO s L) := by
    obtain ⟨i1, i2⟩ := fiter_eat h k hq
    rcases hs with rfl | rfl
    · exact i1
    · exact i2
  have e3 : lotsOf o.id (sideO s (fiter p ⟨[], L, q⟩ k).L) = lotsOf o.id (fiter p ⟨[], L, q⟩ k).L := lots_side (fun y hy e => by
    obtain ⟨x, hx, i1, i2⟩ := fiter_from h k hq y hy
    have := id_inj h.ok.ids hx hoL (i1.trans e)
    rw [← i2, this]; exact hos)
  rw [e1, lots_one h.ok.ids hoL, ← e2, e3]
/-- nobody trades more than it had; ahead of somebody who traded nobody has lots left -/
theorem fair_side (h : FOk p ⟨[], L, q⟩) (hq : ∀ j, j < k → 0 < (fiter p ⟨[], L, q⟩ j).q) {s : Int} (hs : s = 1 ∨ s = 2) {A T : List Ord} {o : Ord} (hz : sideO s L = A ++ o :: T) :
    0 ≤ trdF o.id (fiter p ⟨[], L, q⟩ k).fs ∧ trdF o.id (fiter p ⟨[], L, q⟩ k).fs ≤ o.qty ∧ (0 < trdF o.id (fiter p ⟨[], L, q⟩ k).fs → sumO A < q - (fiter p ⟨[], L, q⟩ k).q) ∧ (sumO A + o.qty ≤ q - (fiter p ⟨[], L, q⟩ k).q → trdF o.id (fiter p ⟨[], L, q⟩ k).fs = o.qty) := by
  have ho : o ∈ sideO s L := by rw [hz]; exact List.mem_append_right _ (List.mem_cons_self ..)
  have hb := fiter_q h k hq
  have hqs : ∀ x ∈ A ++ o :: T, 1 ≤ x.qty := fun x hx => (h.ok.ok x (sideO_mem.1 (by rw [hz]; exact hx)).1).2.2.1
  have hnd : ((A ++ o :: T).map Ord.id).Nodup := by rw [← hz]; exact side_ids h.ok s
  have hbb : (fiter p ⟨[], L, q⟩ k).q ≤ q := hb.2
  have e := fair_trd h hq hs ho
  rw [hz, eat_lots hnd hqs (by omega)] at e
  have hoq := hqs o (List.mem_append_right _ (List.mem_cons_self ..))
  have hA : 0 ≤ sumO A := sumO_nn (fun x hx => hqs x (List.mem_append_left _ hx))
  rw [e]
  split
  · exact ⟨by omega, by omega, fun h => by omega, fun h => by omega⟩
  · split
    · exact ⟨by omega, by omega, fun h => by omega, fun h => by omega⟩
    · exact ⟨by omega, by omega, fun h => by omega, fun h => by omega⟩
end
end Go.Proofs.YtjdkagafdnchhaaGreatDoor

/-
  Who trades is willing (8.1), at that price, one lot at least, one of each side. Plain lists; no program is named here.
-/
namespace Go.Proofs.YtjdkagafdnchhaaGreatDoor
open Go.RowKit

theorem fiter_whole {p : Int} {s : FS} (h : FOk p s) : ∀ k, (∀ j, j < k → 0 < (fiter p s j).q) → ∀ y ∈ (fiter p s k).L, ∃ x ∈ s.L, x.id = y.id ∧ x.side = y.side ∧ x.kind = y.kind ∧ x.price = y.price
  | 0, _ => fun y hy => ⟨y, hy, rfl, rfl, rfl, rfl⟩
  | k + 1, hq => fun y hy => by
    have hk : ∀ j, j < k → 0 < (fiter p s j).q := fun j hj => hq j (by omega)
    obtain ⟨⟨x, T, z, U, hr⟩, _⟩ := fstep_ok (fiter_ok h k hk) (hq k (by omega))
    have eL : (fiter p s (k + 1)).L = lessF z.id (lotN (fiter p s k)) (lessF x.id (lotN (fiter p s k)) (fiter p s k).L) := hr.2.2.2.2.2.2.2.2.2.2.2.2.1
    rw [eL] at hy
    obtain ⟨y1, hy1, e1, _⟩ := less_mem hy
    obtain ⟨y2, hy2, e2, _⟩ := less_mem hy1
    obtain ⟨x0, hx0, i1, i2, i3, i4⟩ := fiter_whole h k hk y2 hy2
    refine ⟨x0, hx0, ?_, ?_, ?_, ?_⟩
    · rw [e1, cutF_id, e2, cutF_id]; exact i1
    · rw [e1, cutF_side, e2, cutF_side]; exact i2
    · rw [e1, cutF_kind, e2, cutF_kind]; exact i3
    · rw [e1, cutF_price, e2, cutF_price]; exact i4
theorem wil_same {s p : Int} {x y : Ord} (h1 : x.kind = y.kind) (h2 : x.price = y.price) : wilB s p x = wilB s p y := by
  unfold wilB
  rw [h1, h2]
/-- each trade is of a buyer and a seller that are willing -/
theorem fiter_who {p : Int} {L : List Ord} {q : Int} (h : FOk p ⟨[], L, q⟩) : ∀ k, (∀ j, j < k → 0 < (fiter p ⟨[], L, q⟩ j).q) → ∀ f ∈ (fiter p ⟨[], L, q⟩ k).fs, f.price = p ∧ 1 ≤ f.qty ∧ (∃ x ∈ L, x.id = f.buyer ∧ x.side = 1 ∧ wilB 1 p x = true) ∧ ∃ y ∈ L, y.id = f.seller ∧ y.side = 2 ∧ wilB 2 p y = true
  | 0, _ => fun f hf => by cases hf
  | k + 1, hq => fun f hf => by
    have hk : ∀ j, j < k → 0 < (fiter p ⟨[], L, q⟩ j).q := fun j hj => hq j (by omega)
    have hO := fiter_ok h k hk
    have hqk := hq k (by omega)
    obtain ⟨⟨x, T, y, U, hS1, hS2, hbx, hby, hxL, hyL, _, n1, _⟩, _⟩ := fstep_ok hO hqk
    obtain ⟨x', T', hS1', _, hxs, hxw⟩ := best_wil hO.ok (s := 1) (p := p) (Or.inl rfl) (by have := hO.buy; omega)
    obtain ⟨y', U', hS2', _, hys, hyw⟩ := best_wil hO.ok (s := 2) (p := p) (Or.inr rfl) (by have := hO.sell; omega)
    rw [hS1] at hS1'
    rw [hS2] at hS2'
    injection hS1' with ex _
    injection hS2' with ey _
    subst ex ey
    have hf2 : f ∈ (fiter p ⟨[], L, q⟩ k).fs ++ [⟨x.id, y.id, p, lotN (fiter p ⟨[], L, q⟩ k)⟩] := by
      have e : (fiter p ⟨[], L, q⟩ (k + 1)).fs = (fiter p ⟨[], L, q⟩ k).fs ++ [⟨x.id, y.id, p, lotN (fiter p ⟨[], L, q⟩ k)⟩] := by
        show (fiter p ⟨[], L, q⟩ k).fs ++ [_] = _
        rw [hbx, hby]
      rw [← e]; exact hf
    rcases List.mem_append.1 hf2 with hf3 | hf3
    · exact fiter_who h k hk f hf3
    · rw [List.mem_singleton] at hf3
      subst hf3
      obtain ⟨x0, hx0, a1, a2, a3, a4⟩ := fiter_whole h k hk x hxL
      obtain ⟨y0, hy0, b1, b2, b3, b4⟩ := fiter_whole h k hk y hyL
      exact ⟨rfl, n1, ⟨x0, hx0, a1, a2.trans hxs, (wil_same a3 a4).trans hxw⟩, ⟨y0, hy0, b1, b2.trans hys, (wil_same b3 b4).trans hyw⟩⟩
/-- who traded something is in some trade -/
theorem trd_some {id : Int} : ∀ {l : List Fil}, 0 < trdF id l → ∃ f ∈ l, f.buyer = id ∨ f.seller = id
  | [], h => by rw [trdF] at h; omega
  | f :: T, h => by
    by_cases e : f.buyer = id ∨ f.seller = id
    · exact ⟨f, List.mem_cons_self .., e⟩
    · rw [trdF, if_neg e, Int.zero_add] at h
      obtain ⟨g, hg, e'⟩ := trd_some h
      exact ⟨g, List.mem_cons_of_mem _ hg, e'⟩
/-- and willing -/
theorem fair_wil {p q : Int} {L : List Ord} {k : Nat} (h : FOk p ⟨[], L, q⟩) (hq : ∀ j, j < k → 0 < (fiter p ⟨[], L, q⟩ j).q) {o : Ord} (ho : o ∈ L) (ht : 0 < trdF o.id (fiter p ⟨[], L, q⟩ k).fs) : wilB o.side p o = true := by
  obtain ⟨f, hf, e⟩ := trd_some ht
  obtain ⟨_, _, ⟨x, hx, a1, a2, a3⟩, ⟨y, hy, b1, b2, b3⟩⟩ := fiter_who h k hq f hf
  rcases e with e | e
  · obtain rfl := id_inj h.ok.ids hx ho (a1.trans e)
    rw [a2]; exact a3
  · obtain rfl := id_inj h.ok.ids hy ho (b1.trans e)
    rw [b2]; exact b3
end Go.Proofs.YtjdkagafdnchhaaGreatDoor

/-
  Behind an auction nobody lies who could trade (8.1, 6): where no price does more, and just the lots of the best price are off both fronts. Plain lists; no program is named here.
-/
namespace Go.Proofs.YtjdkagafdnchhaaGreatDoor
open Go.RowKit

/-- who ranks ahead of somebody that is willing is willing -/
theorem rank_wil {L : List Ord} (h : LOk L) {s p : Int} (hs : s = 1 ∨ s = 2) {x o : Ord} (hx : x ∈ L) (ho : o ∈ L) (hr : rankO s x ≤ rankO s o) (hw : wilB s p o = true) : wilB s p x = true := by
  have px := h.ok x hx
  have po := h.ok o ho
  unfold rankO rankI at hr
  unfold wilB at hw ⊢
  by_cases kx : x.kind = 2
  · rw [kx]; rfl
  · rw [if_neg kx] at hr
    by_cases ko : o.kind = 2
    · rw [if_pos ko] at hr
      split at hr <;> omega
    · rw [if_neg ko] at hr
      have kob : (o.kind == 2) = false := beq_eq_false_iff_ne.2 ko
      have kxb : (x.kind == 2) = false := beq_eq_false_iff_ne.2 kx
      rw [kob, Bool.false_or] at hw
      rw [kxb, Bool.false_or]
      rcases hs with rfl | rfl
      · rw [if_pos rfl, if_pos rfl] at hr
        simp at hw ⊢; omega
      · rw [if_neg (by decide), if_neg (by decide)] at hr
        simp at hw ⊢; omega
theorem wilL_perm {s p : Int} {l l' : List Ord} (h : l.Perm l') : wilL s p l = wilL s p l' := by
  induction h with
  | nil => rfl
  | cons x _ ih => rw [wilL_cons, wilL_cons, ih]
  | swap x y l => rw [wilL_cons, wilL_cons, wilL_cons, wilL_cons]; omega
  | trans _ _ i1 i2 => exact i1.trans i2
theorem wilL_filter {s p : Int} : ∀ l : List Ord, wilL s p (onSide s l) = wilL s p l
  | [] => rfl
  | o :: T => by
    have ih := wilL_filter (s := s) (p := p) T
    unfold onSide at ih ⊢
    by_cases hf : (o.side == s) = true
    · rw [List.filter_cons_of_pos (p := fun x : Ord => x.side == s) hf, wilL_cons, wilL_cons, ih]
    · rw [List.filter_cons_of_neg (p := fun x : Ord => x.side == s) hf, wilL_cons, ih, if_neg (by simp only [Bool.and_eq_true]; exact fun e => hf e.1), Int.zero_add]
theorem wilL_side (s p : Int) (l : List Ord) : wilL s p (sideO s l) = wilL s p l :=
  (wilL_perm (ssort_perm (rankO s) (onSide s l))).trans (wilL_filter l)
theorem wilL_nn {s p : Int} : ∀ {l : List Ord}, (∀ o ∈ l, 1 ≤ o.qty) → 0 ≤ wilL s p l
  | [], _ => by simp [wilL]
  | o :: T, h => by
    have := wilL_nn (s := s) (p := p) (l := T) (fun x hx => h x (List.mem_cons_of_mem _ hx))
    have := h o (List.mem_cons_self ..)
    rw [wilL_cons]
    split <;> omega
theorem wilL_front {s p : Int} : ∀ {A T : List Ord} {o : Ord}, (∀ x ∈ A ++ o :: T, 1 ≤ x.qty) → (∀ x ∈ A, (x.side == s && wilB s p x) = true) → (o.side == s && wilB s p o) = true → sumO A + o.qty ≤ wilL s p (A ++ o :: T)
  | [], T, o, hq, _, ho => by
    have := wilL_nn (s := s) (p := p) (l := T) (fun x hx => hq x (by rw [List.nil_append]; exact List.mem_cons_of_mem _ hx))
    rw [List.nil_append, wilL_cons, if_pos ho, sumO]; omega
  | a :: A, T, o, hq, hA, ho => by
    have ih := wilL_front (A := A) (T := T) (fun x hx => hq x (List.mem_cons_of_mem _ hx)) (fun x hx => hA x (List.mem_cons_of_mem _ hx)) ho
    rw [List.cons_append, wilL_cons, if_pos (hA a (List.mem_cons_self ..)), sumO]; omega
/-- who has lots left, of which there are more than q at each price at which it is willing -/
theorem left_more {L : List Ord} (h : LOk L) {s p q : Int} (hs : s = 1 ∨ s = 2) (h0 : 0 ≤ q) {y : Ord} (hy : y ∈ eatL q (sideO s L)) : ∃ o ∈ L, o.side = s ∧ o.kind = y.kind ∧ o.price = y.price ∧ (wilB s p o = true → q < wilL s p L) := by
  have key : ∀ {Z : List Ord} {n : Int}, (∀ x ∈ Z, 1 ≤ x.qty) → 0 ≤ n → y ∈ eatL n Z → ∃ A o T, Z = A ++ o :: T ∧ o.kind = y.kind ∧ o.price = y.price ∧ n < sumO A + o.qty := by
    intro Z
    induction Z with
    | nil => intro n _ _ hy; cases hy
    | cons z Z ih =>
      intro n hz hn hy
      have hz1 := hz z (List.mem_cons_self ..)
      have hzs : ∀ x ∈ Z, 1 ≤ x.qty := fun x hx => hz x (List.mem_cons_of_mem _ hx)
      have hin : y ∈ Z → n < z.qty → ∃ A o T, z :: Z = A ++ o :: T ∧ o.kind = y.kind ∧ o.price = y.price ∧ n < sumO A + o.qty := fun hyZ hlt => by
        obtain ⟨A, T, e⟩ := List.append_of_mem hyZ
        subst e
        have hA : 0 ≤ sumO A := sumO_nn (fun x hx => hzs x (List.mem_append_left _ hx))
        have hy1 := hzs y hyZ
        exact ⟨z :: A, y, T, rfl, rfl, rfl, by rw [sumO]; omega⟩
      rw [eatL] at hy
      by_cases h1 : n < z.qty
      · rw [if_pos h1] at hy
        by_cases h2 : n ≤ 0
        · rw [if_pos h2] at hy
          rcases List.mem_cons.1 hy with e | hyZ
          · subst e; exact ⟨[], y, Z, rfl, rfl, rfl, by rw [sumO]; omega⟩
          · exact hin hyZ h1
        · rw [if_neg h2] at hy
          rcases List.mem_cons.1 hy with e | hyZ
          · subst e; exact ⟨[], z, Z, rfl, rfl, rfl, by rw [sumO]; omega⟩
          · exact hin hyZ h1
      · rw [if_neg h1] at hy
        obtain ⟨A, o, T, e, k1, k2, k3⟩ := ih hzs (by omega) hy
        exact ⟨z :: A, o, T, by rw [e]; rfl, k1, k2, by rw [sumO]; omega⟩
  have hqs : ∀ x ∈ sideO s L, 1 ≤ x.qty := fun x hx => (h.ok x (sideO_mem.1 hx).1).2.2.1
  obtain ⟨A, o, T, e, k1, k2, k3⟩ := key hqs h0 hy
  have hoS : o ∈ sideO s L := by rw [e]; exact List.mem_append_right _ (List.mem_cons_self ..)
  obtain ⟨hoL, hos⟩ := sideO_mem.1 hoS
  refine ⟨o, hoL, hos, k1, k2, fun hw => ?_⟩
  have hsrt := ssort_srt (rank := rankO s) (onSide s L)
  rw [show ssort (rankO s) (onSide s L) = A ++ o :: T from e, List.pairwise_append] at hsrt
  have hf : sumO A + o.qty ≤ wilL s p (A ++ o :: T) := wilL_front (fun x hx => hqs x (by rw [e]; exact hx)) (fun x hx => by
    have hxS : x ∈ sideO s L := by rw [e]; exact List.mem_append_left _ hx
    obtain ⟨hxL, hxs⟩ := sideO_mem.1 hxS
    rw [Bool.and_eq_true]
    exact ⟨beq_iff_eq.2 hxs, rank_wil h hs hxL hoL (hsrt.2.2 x hx o (List.mem_cons_self ..)) hw⟩) (by rw [Bool.and_eq_true]; exact ⟨beq_iff_eq.2 hos, hw⟩)
  rw [← e, wilL_side] at hf
  omega
/-- nobody is left who could trade -/
theorem none_left {L : List Ord} (h : LOk L) {q : Int} (h0 : 0 ≤ q) (hb : ∀ p, 1 ≤ p → p ≤ 1000000 → min (wilL 1 p L) (wilL 2 p L) ≤ q) {x y : Ord} (hx : x ∈ eatL q (sideO 1 L)) (hy : y ∈ eatL q (sideO 2 L)) : ¬ (x.kind = 2 ∨ y.kind = 2 ∨ y.price ≤ x.price) := fun ht => by
  have most : ∀ p, 1 ≤ p → p ≤ 1000000 → (x.kind = 2 ∨ p ≤ x.price) → (y.kind = 2 ∨ y.price ≤ p) → False := fun p p1 p2 c1 c2 => by
    obtain ⟨o, _, _, k1, k2, k3⟩ := left_more (p := p) h (Or.inl rfl) h0 hx
    obtain ⟨z, _, _, j1, j2, j3⟩ := left_more (p := p) h (Or.inr rfl) h0 hy
    have a1 := k3 (by unfold wilB; rw [k1, k2]; rcases c1 with c | c <;> simp [c])
    have a2 := j3 (by unfold wilB; rw [j1, j2]; rcases c2 with c | c <;> simp [c])
    have := hb p p1 p2
    omega
  obtain ⟨o, hoL, _, _, k2, _⟩ := left_more (p := 1) h (Or.inl rfl) h0 hx
  obtain ⟨z, hzL, _, _, j2, _⟩ := left_more (p := 1) h (Or.inr rfl) h0 hy
  have po := h.ok o hoL
  have pz := h.ok z hzL
  rcases ht with c | c | c
  · exact most y.price (by omega) (by omega) (Or.inl c) (Or.inr (Int.le_refl _))
  · exact most x.price (by omega) (by omega) (Or.inr (Int.le_refl _)) (Or.inl c)
  · exact most y.price (by omega) (by omega) (Or.inr c) (Or.inr (Int.le_refl _))
end Go.Proofs.YtjdkagafdnchhaaGreatDoor

/-
  No price does more, as plain lists: at no price at all would more be traded than at the point that is chosen of a curve; and what is told of that point is what would be bought and sold there. No program is named here.
-/
namespace Go.Proofs.YtjdkagafdnchhaaGreatDoor
open Go.RowKit

theorem sum_le {l : List Ord} {f g : Ord → Bool} (h : ∀ o ∈ l, f o = true → g o = true) (hq : ∀ o ∈ l, g o = true → 0 ≤ o.qty) : (l.map fun o => if f o = true then o.qty else 0).sum ≤ (l.map fun o => if g o = true then o.qty else 0).sum := by
  induction l with
  | nil => simp
  | cons o l ih =>
    have ih' := ih (fun o ho => h o (List.mem_cons_of_mem _ ho)) (fun o ho => hq o (List.mem_cons_of_mem _ ho))
    have h1 := h o (List.mem_cons_self ..)
    have h2 := hq o (List.mem_cons_self ..)
    rw [List.map_cons, List.map_cons, List.sum_cons, List.sum_cons]
    by_cases hf : f o = true
    · rw [if_pos hf, if_pos (h1 hf)]; omega
    · rw [if_neg hf]
      by_cases hg : g o = true
      · rw [if_pos hg]; have := h2 hg; omega
      · rw [if_neg hg]; omega
theorem dem_le {l : List Ord} {p q : Int} (h : ∀ o ∈ l, buysB p o = true → buysB q o = true) : demO p l ≤ demO q l :=
  sum_le h (fun o _ hb => by have := (okO_qty (buysB_ok hb)).2; omega)
theorem sup_le {l : List Ord} {p q : Int} (h : ∀ o ∈ l, sellsB p o = true → sellsB q o = true) : supO p l ≤ supO q l :=
  sum_le h (fun o _ hb => by have := (okO_qty (sellsB_ok hb)).2; omega)
/-- the greatest of those that are no greater than p, or none is -/
theorem top_below (p : Int) : ∀ l : List Int, (∀ x ∈ l, p < x) ∨ ∃ q ∈ l, q ≤ p ∧ ∀ x ∈ l, x ≤ p → x ≤ q
  | [] => Or.inl (fun x hx => by cases hx)
  | y :: l => by
    rcases top_below p l with h | ⟨q, hq, h1, h2⟩
    · by_cases hy : y ≤ p
      · refine Or.inr ⟨y, List.mem_cons_self .., hy, fun x hx hxp => ?_⟩
        rw [List.mem_cons] at hx
        rcases hx with rfl | hx
        · exact Int.le_refl _
        · have := h x hx; omega
      · refine Or.inl (fun x hx => ?_)
        rw [List.mem_cons] at hx
        rcases hx with rfl | hx
        · omega
        · exact h x hx
    · by_cases hy : y ≤ p ∧ q ≤ y
      · refine Or.inr ⟨y, List.mem_cons_self .., hy.1, fun x hx hxp => ?_⟩
        rw [List.mem_cons] at hx
        rcases hx with rfl | hx
        · exact Int.le_refl _
        · have := h2 x hx hxp; omega
      · refine Or.inr ⟨q, List.mem_cons_of_mem _ hq, h1, fun x hx hxp => ?_⟩
        rw [List.mem_cons] at hx
        rcases hx with rfl | hx
        · omega
        · exact h2 x hx hxp
theorem least_of : ∀ l : List Int, l ≠ [] → ∃ q ∈ l, ∀ x ∈ l, q ≤ x
  | [], h => absurd rfl h
  | [y], _ => ⟨y, List.mem_cons_self .., fun x hx => by rw [List.mem_singleton] at hx; omega⟩
  | y :: z :: l, _ => by
    obtain ⟨q, hq, h1⟩ := least_of (z :: l) (by simp)
    by_cases hy : y ≤ q
    · refine ⟨y, List.mem_cons_self .., fun x hx => ?_⟩
      rw [List.mem_cons] at hx
      rcases hx with rfl | hx
      · exact Int.le_refl _
      · have := h1 x hx; omega
    · refine ⟨q, List.mem_cons_of_mem _ hq, fun x hx => ?_⟩
      rw [List.mem_cons] at hx
      rcases hx with rfl | hx
      · omega
      · exact h1 x hx
theorem buysB_iff {p : Int} {o : Ord} : buysB p o = true ↔ (okO o = true ∧ o.side = 1 ∧ (o.kind = 2 ∨ p ≤ o.price)) := by unfold buysB; simp
theorem sellsB_iff {p : Int} {o : Ord} : sellsB p o = true ↔ (okO o = true ∧ o.side = 2 ∧ (o.kind = 2 ∨ o.price ≤ p)) := by unfold sellsB; simp
theorem names_mem {l : List Ord} {more : Int} {o : Ord} (ho : o ∈ l) (h : okO o = true) (hk : ¬ o.kind = 2) : o.price ∈ pricesO l more :=
  pricesO_mem.2 (Or.inr ⟨o, ho, by unfold namesO; simp [h, hk], rfl⟩)
/-- beside each price there is one of the curve's at which no less is bought, and no less is sold -/
theorem near_price {l : List Ord} {more : Int} (p : Int) (hne : pricesO l more ≠ []) : ∃ q ∈ pricesO l more, demO p l ≤ demO q l ∧ supO p l ≤ supO q l := by
  rcases top_below p (pricesO l more) with h | ⟨q, hq, h1, h2⟩
  · obtain ⟨q, hq, h1⟩ := least_of _ hne
    refine ⟨q, hq, dem_le fun o ho hb => ?_, sup_le fun o ho hb => ?_⟩
    · obtain ⟨a1, a2, a3⟩ := buysB_iff.1 hb
      refine buysB_iff.2 ⟨a1, a2, ?_⟩
      by_cases hk : o.kind = 2
      · exact Or.inl hk
      · exact Or.inr (h1 _ (names_mem ho a1 hk))
    · obtain ⟨a1, a2, a3⟩ := sellsB_iff.1 hb
      refine sellsB_iff.2 ⟨a1, a2, ?_⟩
      by_cases hk : o.kind = 2
      · exact Or.inl hk
      · have := h _ (names_mem (more := more) ho a1 hk)
        rcases a3 with a3 | a3
        · exact absurd a3 hk
        · omega
  · refine ⟨q, hq, dem_le fun o ho hb => ?_, sup_le fun o ho hb => ?_⟩
    · obtain ⟨a1, a2, a3⟩ := buysB_iff.1 hb
      exact buysB_iff.2 ⟨a1, a2, a3.imp id (fun h => by omega)⟩
    · obtain ⟨a1, a2, a3⟩ := sellsB_iff.1 hb
      refine sellsB_iff.2 ⟨a1, a2, ?_⟩
      by_cases hk : o.kind = 2
      · exact Or.inl hk
      · rcases a3 with a3 | a3
        · exact absurd a3 hk
        · exact Or.inr (h2 _ (names_mem ho a1 hk) a3)
theorem curve_mem {l : List Ord} {more q : Int} (h : q ∈ pricesO l more) : (⟨q, demO q l, supO q l⟩ : Pt) ∈ curveL l more :=
  List.mem_map.2 ⟨q, by rw [uniqL_mem (sortI_sorted _), sortI_mem]; exact h, rfl⟩
theorem curve_pt {l : List Ord} {more : Int} {x : Pt} (h : x ∈ curveL l more) : x.dem = demO x.price l ∧ x.sup = supO x.price l ∧ x.price ∈ pricesO l more := by
  obtain ⟨q, hq, rfl⟩ := List.mem_map.1 h
  rw [uniqL_mem (sortI_sorted _), sortI_mem] at hq
  exact ⟨rfl, rfl, hq⟩
theorem choose_qty (l : List Pt) (around : Int) : (chooseL l around).qty = (if mostL l < 1 then 0 else mostL l) := by
  unfold chooseL
  by_cases h : mostL l < 1
  · rw [if_pos h, if_pos h]
  · rw [if_neg h, if_neg h]
    exact (chosen_mem around (by omega)).2
/-- NO PRICE DOES MORE -/
theorem curve_best {l : List Ord} {more : Int} (around p : Int) (hne : pricesO l more ≠ []) : min (demO p l) (supO p l) ≤ (chooseL (curveL l more) around).qty := by
  obtain ⟨q, hq, h1, h2⟩ := near_price (l := l) (more := more) p hne
  have h3 : trB ⟨q, demO q l, supO q l⟩ ≤ mostL (curveL l more) := mostL_max (curve_mem hq)
  have h4 : trB ⟨q, demO q l, supO q l⟩ = min (demO q l) (supO q l) := rfl
  rw [choose_qty]
  split <;> omega
/-- what is told of the chosen price is what would be bought, and sold, there -/
theorem curve_told {l : List Ord} {more : Int} (around : Int) (h : 0 < (chooseL (curveL l more) around).qty) :
    (chooseL (curveL l more) around).qty = min (demO (chooseL (curveL l more) around).price l) (supO (chooseL (curveL l more) around).price l) ∧ (chooseL (curveL l more) around).sur = demO (chooseL (curveL l more) around).price l - supO (chooseL (curveL l more) around).price l := by
  have hm : ¬ mostL (curveL l more) < 1 := fun e => by
    rw [choose_qty, if_pos e] at h; omega
  have hc : chooseL (curveL l more) around = quoP (chosenP (curveL l more) around) := if_neg hm
  obtain ⟨h1, _⟩ := chosen_mem (l := curveL l more) around (by omega)
  obtain ⟨e1, e2, _⟩ := curve_pt h1
  rw [hc]
  unfold quoP trB
  dsimp only
  rw [e1, e2]
  exact ⟨rfl, rfl⟩
theorem prices_some {l : List Ord} {more : Int} (h : 0 < more) : pricesO l more ≠ [] := fun e => by
  have : more ∈ pricesO l more := pricesO_mem.2 (Or.inl ⟨h, rfl⟩)
  rw [e] at this; cases this
theorem curve_small {l : List Ord} {more : Int} (hl : l.length ≤ 1000) (hp : ∀ o ∈ l, -1099511627776 ≤ o.price ∧ o.price ≤ 1099511627776) (hm : more ≤ 1099511627776) : ∀ x ∈ curveL l more, x.Small := fun x hx => by
  obtain ⟨e1, e2, h3⟩ := curve_pt hx
  have a1 := demO_in x.price l
  have a2 := supO_in x.price l
  refine ⟨?_, by rw [e1]; omega, by rw [e2]; omega⟩
  rcases pricesO_mem.1 h3 with ⟨h4, h5⟩ | ⟨o, ho, _, h5⟩
  · omega
  · rw [← h5]; exact hp o ho
theorem curve_len (l : List Ord) (more : Int) : (curveL l more).length ≤ l.length + 1 := by
  unfold curveL uniqL
  rw [List.length_map]
  have h1 := uniqK_len (sortI (pricesO l more)) (sortI (pricesO l more)).length
  have h2 := sortI_length (pricesO l more)
  have h3 := pricesO_len l more
  omega
end Go.Proofs.YtjdkagafdnchhaaGreatDoor

/-
  The price that the curve chooses, and Fills (6, 8.1): what is bought and sold at a price are the lots of the willing; so Fills may trade what is chosen, and behind it nobody lies who could trade. Plain lists; no program is named here.
-/
namespace Go.Proofs.YtjdkagafdnchhaaGreatDoor
open Go.RowKit

theorem ok_lies {l : List Ord} (h : LOk l) {o : Ord} (ho : o ∈ l) : okO o = true := by
  have h1 := h.side o ho
  have h2 := h.ok o ho
  unfold okO inC
  simp only [Bool.and_eq_true, decide_eq_true_iff]
  omega
theorem dem_wil {p : Int} {l : List Ord} (h : LOk l) : demO p l = wilL 1 p l := by
  unfold demO wilL
  congr 1
  refine List.map_congr_left (fun o ho => ?_)
  have e : buysB p o = (o.side == 1 && wilB 1 p o) := by
    unfold buysB wilB
    rw [ok_lies h ho]
    rcases h.side o ho with e | e <;> simp [e]
  rw [e]
theorem sup_wil {p : Int} {l : List Ord} (h : LOk l) : supO p l = wilL 2 p l := by
  unfold supO wilL
  congr 1
  refine List.map_congr_left (fun o ho => ?_)
  have e : sellsB p o = (o.side == 2 && wilB 2 p o) := by
    unfold sellsB wilB
    rw [ok_lies h ho]
    rcases h.side o ho with e | e <;> simp [e]
  rw [e]
/-- what is chosen may be traded -/
theorem auction_fits {l : List Ord} {more : Int} (around : Int) (h : LOk l) (hq : 0 < (chooseL (curveL l more) around).qty) : FOk (chooseL (curveL l more) around).price ⟨[], l, (chooseL (curveL l more) around).qty⟩ := by
  obtain ⟨e, _⟩ := curve_told around hq
  rw [dem_wil h, sup_wil h] at e
  exact ⟨h, by show 0 ≤ (chooseL (curveL l more) around).qty; omega, by show (chooseL (curveL l more) around).qty ≤ wilL 1 _ l; omega, by show (chooseL (curveL l more) around).qty ≤ wilL 2 _ l; omega⟩
/-- and then nobody is left who could trade -/
theorem auction_none {l : List Ord} {more : Int} (around : Int) (h : LOk l) (hne : pricesO l more ≠ []) {k : Nat} (hq : 0 < (chooseL (curveL l more) around).qty) (hk : ∀ j, j < k → 0 < (fiter (chooseL (curveL l more) around).price ⟨[], l, (chooseL (curveL l more) around).qty⟩ j).q) (hz : (fiter (chooseL (curveL l more) around).price ⟨[], l, (chooseL (curveL l more) around).qty⟩ k).q = 0) {x y : Ord}
    (hx : x ∈ sideO 1 (fiter (chooseL (curveL l more) around).price ⟨[], l, (chooseL (curveL l more) around).qty⟩ k).L) (hy : y ∈ sideO 2 (fiter (chooseL (curveL l more) around).price ⟨[], l, (chooseL (curveL l more) around).qty⟩ k).L) : ¬ (x.kind = 2 ∨ y.kind = 2 ∨ y.price ≤ x.price) := by
  have hb : ∀ p, min (demO p l) (supO p l) ≤ (chooseL (curveL l more) around).qty := fun p => curve_best around p hne
  have hF := auction_fits around h hq
  generalize chooseL (curveL l more) around = c at *
  obtain ⟨e1, e2⟩ := fiter_eat hF k hk
  rw [hz] at e1 e2
  rw [e1] at hx
  rw [e2] at hy
  have ec : (⟨[], l, c.qty⟩ : FS).q - 0 = c.qty := Int.sub_zero _
  rw [ec] at hx hy
  exact none_left h (by omega) (fun p _ _ => by rw [← dem_wil h, ← sup_wil h]; exact hb p) hx hy
end Go.Proofs.YtjdkagafdnchhaaGreatDoor

/-
  uncross (9.3), as plain functions of a market: what lies stays right. Conditions stand in each theorem.
-/
namespace Go.Proofs.YtjdkagafdnchhaaGreatDoor
open Go.RowKit

/-- behind the trades of uncross, ahead of what it clears away -/
def uncA (m : Mkt) : List Fil × Mkt :=
  if 0 < (wouldM m).qty then ((fillsF (wouldM m).price (wouldM m).qty m.L).fs, { m with L := (fillsF (wouldM m).price (wouldM m).qty m.L).L, an := (wouldM m).price, la := (wouldM m).price }) else ([], m)
theorem uncM_is (m : Mkt) : uncM m = ((uncA m).1, { (uncA m).2 with L := limL (uncA m).2.L }) := by
  unfold uncM uncA
  split <;> rfl
theorem fillsK_ok {p : Int} : ∀ (n : Nat) {s : FS}, FOk p s → FOk p (fillsK p n s) ∧ (fillsK p n s).L.length ≤ s.L.length
  | 0, _, h => ⟨h, Nat.le_refl _⟩
  | n + 1, s, h => by
    unfold fillsK
    by_cases hq : s.q ≤ 0
    · rw [if_pos hq]; exact ⟨h, Nat.le_refl _⟩
    · rw [if_neg hq]
      obtain ⟨⟨x, T, y, U, _, _, _, _, _, _, _, _, _, _, _, _, e, _, _, _⟩, h1⟩ := fstep_ok h (by omega)
      have h2 := fillsK_ok n h1
      refine ⟨h2.1, Nat.le_trans h2.2 ?_⟩
      rw [e]
      have a1 := List.length_filter_le (fun o : Ord => decide (0 < o.qty)) ((lessF x.id (lotN s) s.L).map (cutF y.id (lotN s)))
      have a2 := List.length_filter_le (fun o : Ord => decide (0 < o.qty)) (s.L.map (cutF x.id (lotN s)))
      rw [List.length_map] at a1 a2
      exact Nat.le_trans a1 a2
theorem uncA_ok {m : Mkt} (h : LOk m.L) : LOk (uncA m).2.L ∧ (uncA m).2.L.length ≤ m.L.length := by
  unfold uncA
  split
  · rename_i hq
    have h1 := fillsK_ok (m.L.length + 1) (auction_fits (more := m.la) m.la h hq)
    exact ⟨h1.1.ok, h1.2⟩
  · exact ⟨h, Nat.le_refl _⟩
theorem uncA_len {m : Mkt} (h : LOk m.L) (hL : m.L.length ≤ 100) : (uncA m).2.L.length ≤ 100 := Nat.le_trans (uncA_ok h).2 hL
end Go.Proofs.YtjdkagafdnchhaaGreatDoor

/-
  One phase at a time, over plain lists of rows: what follows of a table that may be. No program is named here.
-/
namespace Go.Proofs.YtjdkagafdnchhaaGreatDoor
open Go.RowKit

/-! one phase at a time, over plain lists -/
theorem fol_ne {p r : Int} (h : hasB (folL p) r = true) : ¬ r = p := by
  intro e
  subst e
  unfold folL at h
  split at h
  · rename_i e; subst e; exact absurd h (by decide)
  split at h
  · rename_i e; subst e; exact absurd h (by decide)
  split at h
  · rename_i e; subst e; exact absurd h (by decide)
  split at h
  · rename_i e; subst e; exact absurd h (by decide)
  · cases h
theorem row_right {p r : Int × Int} (h : rowE p r = 0) : ¬ r.2 = p.2 ∧ p.1 < r.1 := by
  unfold rowE wrongN at h
  split at h
  · rename_i h1
    refine ⟨fol_ne h1, ?_⟩
    split at h
    · cases h
    · omega
  · cases h
theorem scan_cons {p r : Int × Int} {rs : List (Int × Int)} {k : Nat} (h : scanE p k (r :: rs) = (0, -1)) : rowE p r = 0 ∧ scanE r (k + 1) rs = (0, -1) := by
  unfold scanE at h
  split at h
  · rename_i e; exact ⟨e, h⟩
  · rename_i e; exact absurd (congrArg Prod.fst h) e
/-- ahead of the next row's tick the phase stays -/
theorem phase_now {p : Int × Int} {k : Nat} {now : Int} : ∀ {rs : List (Int × Int)}, scanE p k rs = (0, -1) → now ≤ p.1 → ∃ n, phaseF p.2 now rs = (p.2, n)
  | [], _, _ => ⟨-1, rfl⟩
  | r :: rs, h, hn => by
    obtain ⟨h1, _⟩ := scan_cons h
    have := (row_right h1).2
    exact ⟨r.1, by unfold phaseF; rw [if_pos (by omega)]⟩
theorem once_from {now : Int} (h0 : 0 ≤ now) : ∀ {rs : List (Int × Int)} {p : Int × Int} {k : Nat}, scanE p k rs = (0, -1) → p.1 ≤ now →
    ((phaseF p.2 now rs).2 = now + 1 ↔ ¬ (phaseF p.2 (now + 1) rs).1 = (phaseF p.2 now rs).1) ∧ ((phaseF p.2 now rs).2 = -1 ∨ now < (phaseF p.2 now rs).2)
      ∧ ((phaseF p.2 (now + 1) rs).1 = (phaseF p.2 now rs).1 → (phaseF p.2 (now + 1) rs).2 = (phaseF p.2 now rs).2)
  | [], p, k, _, _ => by simp [phaseF]; omega
  | r :: rs, p, k, h, hp => by
    obtain ⟨h1, h2⟩ := scan_cons h
    obtain ⟨g1, g2⟩ := row_right h1
    by_cases ha : r.1 ≤ now
    · have e1 : phaseF p.2 now (r :: rs) = phaseF r.2 now rs := by unfold phaseF; rw [if_neg (by omega)]; cases rs <;> rfl
      have e2 : phaseF p.2 (now + 1) (r :: rs) = phaseF r.2 (now + 1) rs := by unfold phaseF; rw [if_neg (by omega)]; cases rs <;> rfl
      rw [e1, e2]
      exact once_from h0 h2 ha
    · have e1 : phaseF p.2 now (r :: rs) = (p.2, r.1) := by unfold phaseF; rw [if_pos (by omega)]
      by_cases hb : r.1 = now + 1
      · obtain ⟨n, e3⟩ := phase_now (now := now + 1) h2 (by omega)
        have e2 : phaseF p.2 (now + 1) (r :: rs) = (r.2, n) := by rw [← e3]; unfold phaseF; rw [if_neg (by omega)]; cases rs <;> rfl
        rw [e1, e2]
        exact ⟨⟨fun _ => g1, fun _ => hb⟩, Or.inr (by simp; omega), fun e => absurd e g1⟩
      · have e2 : phaseF p.2 (now + 1) (r :: rs) = (p.2, r.1) := by unfold phaseF; rw [if_pos (by omega)]
        rw [e1, e2]
        exact ⟨⟨fun e => absurd e hb, fun e => absurd rfl e⟩, Or.inr (by simp; omega), fun _ => rfl⟩
theorem tab_ok {rs : List (Int × Int)} (h : tabE rs = (0, -1)) : 0 < rs.length ∧ rowAt rs 0 = (0, 1) ∧ scanE (rowAt rs 0) 1 (rs.drop 1) = (0, -1) := by
  cases rs with
  | nil => exact absurd (congrArg Prod.fst h) (by decide)
  | cons r rs =>
    rw [tab_cons] at h
    split at h
    · exact absurd (congrArg Prod.fst h) (by decide)
    split at h
    · rename_i e; exact ⟨Nat.succ_pos _, e, h⟩
    · exact absurd (congrArg Prod.fst h) (by decide)
theorem once {rs : List (Int × Int)} {now : Int} (h : tabE rs = (0, -1)) (h0 : 0 ≤ now) :
    ((phaseV rs now).2 = now + 1 ↔ ¬ (phaseV rs (now + 1)).1 = (phaseV rs now).1) ∧ ((phaseV rs now).2 = -1 ∨ now < (phaseV rs now).2) ∧ ((phaseV rs (now + 1)).1 = (phaseV rs now).1 → (phaseV rs (now + 1)).2 = (phaseV rs now).2) := by
  obtain ⟨_, h1, h2⟩ := tab_ok h
  exact once_from h0 h2 (by rw [h1]; exact h0)
/-- from one tick to the next the phase stays, or one comes that may follow -/
theorem next_from {now : Int} : ∀ {rs : List (Int × Int)} {p : Int × Int} {k : Nat}, scanE p k rs = (0, -1) → p.1 ≤ now →
    (phaseF p.2 (now + 1) rs).1 = (phaseF p.2 now rs).1 ∨ hasB (folL (phaseF p.2 now rs).1) (phaseF p.2 (now + 1) rs).1 = true
  | [], p, k, _, _ => Or.inl rfl
  | r :: rs, p, k, h, hp => by
    obtain ⟨h1, h2⟩ := scan_cons h
    obtain ⟨g1, g2⟩ := row_right h1
    by_cases ha : r.1 ≤ now
    · have e1 : phaseF p.2 now (r :: rs) = phaseF r.2 now rs := by unfold phaseF; rw [if_neg (by omega)]; cases rs <;> rfl
      have e2 : phaseF p.2 (now + 1) (r :: rs) = phaseF r.2 (now + 1) rs := by unfold phaseF; rw [if_neg (by omega)]; cases rs <;> rfl
      rw [e1, e2]
      exact next_from h2 ha
    · have e1 : phaseF p.2 now (r :: rs) = (p.2, r.1) := by unfold phaseF; rw [if_pos (by omega)]
      by_cases hb : r.1 = now + 1
      · obtain ⟨n, e3⟩ := phase_now (now := now + 1) h2 (by omega)
        have e2 : phaseF p.2 (now + 1) (r :: rs) = (r.2, n) := by rw [← e3]; unfold phaseF; rw [if_neg (by omega)]; cases rs <;> rfl
        rw [e1, e2]
        right
        show hasB (folL p.2) r.2 = true
        unfold rowE wrongN at h1
        by_cases hh : hasB (folL p.2) r.2 = true
        · exact hh
        · rw [if_neg hh] at h1; cases h1
      · have e2 : phaseF p.2 (now + 1) (r :: rs) = (p.2, r.1) := by unfold phaseF; rw [if_pos (by omega)]
        rw [e1, e2]
        exact Or.inl rfl
theorem phase_next {rs : List (Int × Int)} {now : Int} (h : tabE rs = (0, -1)) (h0 : 0 ≤ now) : (phaseV rs (now + 1)).1 = (phaseV rs now).1 ∨ hasB (folL (phaseV rs now).1) (phaseV rs (now + 1)).1 = true := by
  obtain ⟨_, h1, h2⟩ := tab_ok h
  exact next_from h2 (by rw [h1]; exact h0)
theorem fol_is {p r : Int} (h : hasB (folL p) r = true) : (p = 1 ∧ r = 2) ∨ (p = 2 ∧ r = 3) ∨ (p = 3 ∧ (r = 5 ∨ r = 7)) ∨ (p = 5 ∧ r = 7) := by
  unfold folL at h
  split at h
  · rename_i e; exact Or.inl ⟨e, by simpa [hasB] using h⟩
  split at h
  · rename_i e; exact Or.inr (Or.inl ⟨e, by simpa [hasB] using h⟩)
  split at h
  · rename_i e; exact Or.inr (Or.inr (Or.inl ⟨e, by simpa [hasB] using h⟩))
  split at h
  · rename_i e; exact Or.inr (Or.inr (Or.inr ⟨e, by simpa [hasB] using h⟩))
  · cases h
/-- a phase of the table is one of five -/
theorem phase_from {now : Int} : ∀ {rs : List (Int × Int)} {p : Int × Int} {k : Nat}, scanE p k rs = (0, -1) → (p.2 = 1 ∨ p.2 = 2 ∨ p.2 = 3 ∨ p.2 = 5 ∨ p.2 = 7) → (phaseF p.2 now rs).1 = 1 ∨ (phaseF p.2 now rs).1 = 2 ∨ (phaseF p.2 now rs).1 = 3 ∨ (phaseF p.2 now rs).1 = 5 ∨ (phaseF p.2 now rs).1 = 7
  | [], p, k, _, hp => hp
  | r :: rs, p, k, h, hp => by
    obtain ⟨h1, h2⟩ := scan_cons h
    by_cases ha : now < r.1
    · have e1 : phaseF p.2 now (r :: rs) = (p.2, r.1) := by unfold phaseF; rw [if_pos ha]
      rw [e1]; exact hp
    · have e1 : phaseF p.2 now (r :: rs) = phaseF r.2 now rs := by unfold phaseF; rw [if_neg ha]; cases rs <;> rfl
      rw [e1]
      refine phase_from h2 ?_
      have hh : hasB (folL p.2) r.2 = true := by
        unfold rowE wrongN at h1
        by_cases hh : hasB (folL p.2) r.2 = true
        · exact hh
        · rw [if_neg hh] at h1; cases h1
      rcases fol_is hh with ⟨_, e⟩ | ⟨_, e⟩ | ⟨_, e | e⟩ | ⟨_, e⟩ <;> omega
theorem phase_five {rs : List (Int × Int)} {now : Int} (h : tabE rs = (0, -1)) : (phaseV rs now).1 = 1 ∨ (phaseV rs now).1 = 2 ∨ (phaseV rs now).1 = 3 ∨ (phaseV rs now).1 = 5 ∨ (phaseV rs now).1 = 7 := by
  obtain ⟨_, h1, h2⟩ := tab_ok h
  exact phase_from h2 (by rw [h1]; exact Or.inl rfl)
end Go.Proofs.YtjdkagafdnchhaaGreatDoor

/-
  What a day's keeper keeps of trades: lots that orders have yet, by their numbers; over plain functions and lists. Conditions stand in each theorem.
-/
namespace Go.Proofs.YtjdkagafdnchhaaGreatDoor
open Go.RowKit

def upF (f : Int → Int) (k v : Int) : Int → Int := fun x => if x = k then v else f x
theorem upF_same (f : Int → Int) (k v : Int) : upF f k v k = v := if_pos rfl
theorem upF_other {f : Int → Int} {k v x : Int} (h : x ≠ k) : upF f k v x = f x := if_neg h
/-- what is kept of all that lie, and wait -/
def Keeps (lots side : Int → Int) (L : List Ord) : Prop := ∀ x ∈ L, lots x.id = x.qty ∧ side x.id = x.side
theorem Keeps.sub {lots side : Int → Int} {L L' : List Ord} (h : Keeps lots side L) (hs : ∀ x ∈ L', x ∈ L) : Keeps lots side L' := fun x hx => h x (hs x hx)
theorem Keeps.up {lots side : Int → Int} {L : List Ord} (h : Keeps lots side L) {k v : Int} (hk : ∀ x ∈ L, x.id ≠ k) : Keeps (upF lots k v) side L := fun x hx => ⟨(upF_other (hk x hx)).trans (h x hx).1, (h x hx).2⟩
theorem Keeps.upS {lots side : Int → Int} {L : List Ord} (h : Keeps lots side L) {k v : Int} (hk : ∀ x ∈ L, x.id ≠ k) : Keeps lots (upF side k v) L := fun x hx => ⟨(h x hx).1, (upF_other (hk x hx)).trans (h x hx).2⟩
theorem less_id {id n : Int} {L : List Ord} {x : Ord} (h : x ∈ lessF id n L) : ∃ y ∈ L, y.id = x.id ∧ y.side = x.side ∧ y.kind = x.kind ∧ y.price = x.price := by
  obtain ⟨y, hy, e, _⟩ := less_mem h
  exact ⟨y, hy, by rw [e, cutF_id], by rw [e, cutF_side], by rw [e, cutF_kind], by rw [e, cutF_price]⟩
theorem Keeps.less {lots side : Int → Int} {L : List Ord} (h : Keeps lots side L) (id n : Int) : Keeps (upF lots id (lots id - n)) side (lessF id n L) := fun x hx => by
  obtain ⟨y, hy, e, _⟩ := less_mem hx
  have hk := h y hy
  by_cases hi : y.id = id
  · have e2 : x = cutO n y := by rw [e]; unfold cutF; rw [if_pos hi]
    have e3 : x.id = id := by rw [e, cutF_id]; exact hi
    refine ⟨?_, by rw [e, cutF_id, cutF_side]; exact hk.2⟩
    rw [e3, upF_same, ← hi, hk.1, e2]
    rfl
  · have e2 : x = y := by rw [e]; exact cutF_qty hi
    subst e2
    exact ⟨(upF_other hi).trans hk.1, hk.2⟩
/-- a trade that may be -/
def fillOk (lots side : Int → Int) (f : Fil) : Prop := 1 ≤ f.qty ∧ side f.buyer = 1 ∧ side f.seller = 2 ∧ f.qty ≤ lots f.buyer ∧ f.qty ≤ lots f.seller
def fillUp (lots : Int → Int) (f : Fil) : Int → Int := upF (upF lots f.buyer (lots f.buyer - f.qty)) f.seller (upF lots f.buyer (lots f.buyer - f.qty) f.seller - f.qty)
def FillsOk (side : Int → Int) : (Int → Int) → List Fil → Prop
  | _, [] => True
  | lots, f :: fs => fillOk lots side f ∧ FillsOk side (fillUp lots f) fs
def fillsUp : (Int → Int) → List Fil → Int → Int
  | lots, [] => lots
  | lots, f :: fs => fillsUp (fillUp lots f) fs
theorem fillsUp_snoc : ∀ (fs : List Fil) (lots : Int → Int) (f : Fil), fillsUp lots (fs ++ [f]) = fillUp (fillsUp lots fs) f
  | [], _, _ => rfl
  | _ :: fs, _, f => fillsUp_snoc fs _ f
theorem FillsOk.snoc {side : Int → Int} : ∀ {fs : List Fil} {lots : Int → Int} {f : Fil}, FillsOk side lots fs → fillOk (fillsUp lots fs) side f → FillsOk side lots (fs ++ [f])
  | [], _, _, _, h => ⟨h, trivial⟩
  | _ :: _, _, _, ⟨h1, h2⟩, h => ⟨h1, h2.snoc h⟩
/-! an auction's trades -/
theorem fstep_keeps {p : Int} {s : FS} {lots side : Int → Int} (h : FOk p s) (hq : 0 < s.q) (hk : Keeps lots side s.L) : ∃ f, (fstep p s).fs = s.fs ++ [f] ∧ fillOk lots side f ∧ Keeps (fillUp lots f) side (fstep p s).L ∧ (∃ x ∈ s.L, x.id = f.buyer) ∧ (∃ y ∈ s.L, y.id = f.seller) ∧ ∀ z ∈ (fstep p s).L, ∃ u ∈ s.L, u.id = z.id := by
  obtain ⟨⟨x, T, y, U, hS1, hS2, hbx, hby, hxL, hyL, hy2, h1, h2, h3, h4, _, e, _, _, _⟩, _⟩ := fstep_ok h hq
  have hsx : x.side = 1 := (sideO_mem.1 (show x ∈ sideO 1 s.L by rw [hS1]; exact List.mem_cons_self ..)).2
  have hsy : y.side = 2 := (sideO_mem.1 (show y ∈ sideO 2 s.L by rw [hS2]; exact List.mem_cons_self ..)).2
  have kx := hk x hxL
  have ky := hk y hyL
  refine ⟨⟨x.id, y.id, p, lotN s⟩, ?_, ⟨h1, kx.2.trans hsx, ky.2.trans hsy, by show lotN s ≤ lots x.id; rw [kx.1]; exact h3, by show lotN s ≤ lots y.id; rw [ky.1]; exact h4⟩, ?_, ⟨x, hxL, rfl⟩, ⟨y, hyL, rfl⟩, fun z hz => ?_⟩
  · show s.fs ++ [⟨(bestO 1 s.L).id, (bestO 2 s.L).id, p, lotN s⟩] = _
    rw [hbx, hby]
  · rw [e]
    exact (hk.less x.id (lotN s)).less y.id (lotN s)
  · rw [e] at hz
    obtain ⟨u, hu, e3, _⟩ := less_id hz
    obtain ⟨v, hv, e4, _⟩ := less_id hu
    exact ⟨v, hv, by rw [e4, e3]⟩
/-- whose trades they are -/
def Whose (L : List Ord) (fs : List Fil) : Prop := ∀ f ∈ fs, (∃ x ∈ L, x.id = f.buyer) ∧ ∃ y ∈ L, y.id = f.seller
theorem fiter_keeps {p : Int} {s : FS} {lots side : Int → Int} (h : FOk p s) (hs : s.fs = []) (hk : Keeps lots side s.L) : ∀ k, (∀ j, j < k → 0 < (fiter p s j).q) → FillsOk side lots (fiter p s k).fs ∧ Keeps (fillsUp lots (fiter p s k).fs) side (fiter p s k).L ∧ Whose s.L (fiter p s k).fs ∧ ∀ z ∈ (fiter p s k).L, ∃ u ∈ s.L, u.id = z.id
  | 0, _ => by
    show FillsOk side lots s.fs ∧ Keeps (fillsUp lots s.fs) side s.L ∧ Whose s.L s.fs ∧ ∀ z ∈ s.L, ∃ u ∈ s.L, u.id = z.id
    rw [hs]; exact ⟨trivial, hk, (fun f hf => by cases hf), fun z hz => ⟨z, hz, rfl⟩⟩
  | k + 1, hq => by
    obtain ⟨h1, h2, h5, h6⟩ := fiter_keeps h hs hk k (fun j hj => hq j (by omega))
    obtain ⟨f, e, h3, h4, ⟨x, hx, ex⟩, ⟨y, hy, ey⟩, h7⟩ := fstep_keeps (fiter_ok h k (fun j hj => hq j (by omega))) (hq k (by omega)) h2
    show FillsOk side lots (fstep p (fiter p s k)).fs ∧ Keeps (fillsUp lots (fstep p (fiter p s k)).fs) side (fstep p (fiter p s k)).L ∧ Whose s.L (fstep p (fiter p s k)).fs ∧ ∀ z ∈ (fstep p (fiter p s k)).L, ∃ u ∈ s.L, u.id = z.id
    rw [e, fillsUp_snoc]
    refine ⟨h1.snoc h3, h4, fun g hg => ?_, fun z hz => ?_⟩
    · rcases List.mem_append.1 hg with hg | hg
      · exact h5 g hg
      · rw [List.mem_singleton.1 hg]
        obtain ⟨u, hu, eu⟩ := h6 x hx
        obtain ⟨v, hv, ev⟩ := h6 y hy
        exact ⟨⟨u, hu, eu.trans ex⟩, ⟨v, hv, ev.trans ey⟩⟩
    · obtain ⟨u, hu, eu⟩ := h7 z hz
      obtain ⟨v, hv, ev⟩ := h6 u hu
      exact ⟨v, hv, ev.trans eu⟩
theorem fillsK_run {p : Int} : ∀ (n : Nat) (s : FS), ∃ K, K ≤ n ∧ fillsK p n s = fiter p s K ∧ (∀ j, j < K → 0 < (fiter p s j).q) ∧ ((fiter p s K).q ≤ 0 ∨ K = n)
  | 0, s => ⟨0, Nat.le_refl _, rfl, fun j hj => absurd hj (by omega), Or.inr rfl⟩
  | n + 1, s => by
    by_cases hq : s.q ≤ 0
    · refine ⟨0, Nat.zero_le _, ?_, fun j hj => absurd hj (by omega), Or.inl hq⟩
      unfold fillsK
      rw [if_pos hq]; rfl
    · obtain ⟨K, hK, e, hj, hz⟩ := fillsK_run n (fstep p s)
      refine ⟨K + 1, by omega, ?_, fun j hjK => ?_, ?_⟩
      · unfold fillsK
        rw [if_neg hq, e, fiter_shift]
      · cases j with
        | zero => show 0 < s.q; omega
        | succ j => rw [← fiter_shift]; exact hj j (by omega)
      · rw [← fiter_shift]
        exact hz.imp id (fun e => by omega)
theorem fillsF_run {p q : Int} {L : List Ord} (h : FOk p ⟨[], L, q⟩) : ∃ K, fillsF p q L = fiter p ⟨[], L, q⟩ K ∧ (fiter p ⟨[], L, q⟩ K).q = 0 ∧ ∀ j, j < K → 0 < (fiter p ⟨[], L, q⟩ j).q := by
  obtain ⟨K, hK, e, hj, hz⟩ := fillsK_run (p := p) (L.length + 1) ⟨[], L, q⟩
  have hnn := (fiter_ok h K hj).nn
  refine ⟨K, e, ?_, hj⟩
  rcases hz with hz | hz
  · omega
  · by_cases h0 : (fiter p ⟨[], L, q⟩ K).q = 0
    · exact h0
    · have := fiter_few h K (fun j hjK => by
        by_cases e2 : j = K
        · subst e2; omega
        · exact hj j (by omega))
      have e3 : (⟨[], L, q⟩ : FS).L.length = L.length := rfl
      omega
/-- none of both sides could trade -/
def Apart (L : List Ord) : Prop := ∀ x ∈ L, ∀ y ∈ L, x.side = 1 → y.side = 2 → x.price < y.price
theorem uncM_fair {M : Mkt} {lots side : Int → Int} (h : LOk M.L) (hla : 1 ≤ M.la ∧ M.la ≤ 1000000) (hk : Keeps lots side M.L) :
    FillsOk side lots (uncM M).1 ∧ Keeps (fillsUp lots (uncM M).1) side (uncM M).2.L ∧ Apart (uncM M).2.L ∧ (∀ x ∈ (uncM M).2.L, x.kind = 1 ∧ ∃ y ∈ M.L, y.id = x.id) ∧ Whose M.L (uncM M).1 := by
  have hne : pricesO M.L M.la ≠ [] := by
    unfold pricesO
    rw [if_pos (show 0 < M.la by omega)]
    simp
  unfold uncM
  by_cases hq : 0 < (wouldM M).qty
  · rw [if_pos hq]
    have hF : FOk (wouldM M).price ⟨[], M.L, (wouldM M).qty⟩ := auction_fits M.la h hq
    obtain ⟨K, e, hz, hj⟩ := fillsF_run hF
    obtain ⟨h1, h2, hwh, hsub⟩ := fiter_keeps hF rfl hk K hj
    show FillsOk side lots (fillsF (wouldM M).price (wouldM M).qty M.L).fs ∧ Keeps (fillsUp lots (fillsF (wouldM M).price (wouldM M).qty M.L).fs) side (limL (fillsF (wouldM M).price (wouldM M).qty M.L).L) ∧ Apart (limL (fillsF (wouldM M).price (wouldM M).qty M.L).L) ∧ (∀ x ∈ limL (fillsF (wouldM M).price (wouldM M).qty M.L).L, x.kind = 1 ∧ ∃ y ∈ M.L, y.id = x.id) ∧ Whose M.L (fillsF (wouldM M).price (wouldM M).qty M.L).fs
    rw [e]
    refine ⟨h1, h2.sub (fun x hx => (List.mem_filter.1 hx).1), fun x hx y hy sx sy => ?_, fun x hx => ⟨by simpa using (List.mem_filter.1 hx).2, hsub x (List.mem_filter.1 hx).1⟩, hwh⟩
    have := auction_none M.la h hne hq hj hz (x := x) (y := y) (sideO_mem.2 ⟨(List.mem_filter.1 hx).1, sx⟩) (sideO_mem.2 ⟨(List.mem_filter.1 hy).1, sy⟩)
    have h3 : ¬ y.price ≤ x.price := fun e => this (Or.inr (Or.inr e))
    omega
  · rw [if_neg hq]
    refine ⟨trivial, hk.sub (fun x hx => (List.mem_filter.1 hx).1), fun x hx y hy sx sy => ?_, fun x hx => ⟨by simpa using (List.mem_filter.1 hx).2, x, (List.mem_filter.1 hx).1, rfl⟩, (fun f hf => by cases hf)⟩
    have hb : ∀ p, 1 ≤ p → p ≤ 1000000 → min (wilL 1 p M.L) (wilL 2 p M.L) ≤ 0 := fun p _ _ => by
      have := curve_best (l := M.L) (more := M.la) M.la p hne
      rw [dem_wil h, sup_wil h] at this
      have e : (chooseL (curveL M.L M.la) M.la).qty = (wouldM M).qty := rfl
      omega
    have e0 : ∀ Z : List Ord, (∀ z ∈ Z, 1 ≤ z.qty) → ∀ z ∈ Z, z ∈ eatL 0 Z := fun Z hZ z hz => by rw [eat_none hZ]; exact hz
    have px : ∀ s, ∀ z ∈ sideO s M.L, 1 ≤ z.qty := fun s z hz => (h.ok z (sideO_mem.1 hz).1).2.2.1
    have := none_left h (Int.le_refl 0) hb (e0 _ (px 1) x (sideO_mem.2 ⟨(List.mem_filter.1 hx).1, sx⟩)) (e0 _ (px 2) y (sideO_mem.2 ⟨(List.mem_filter.1 hy).1, sy⟩))
    have h3 : ¬ y.price ≤ x.price := fun e => this (Or.inr (Or.inr e))
    omega
end Go.Proofs.YtjdkagafdnchhaaGreatDoor

/-
  What a day's keeper keeps of an order that meets those that lie (9.2), over plain functions and lists. Conditions stand in each theorem.
-/
namespace Go.Proofs.YtjdkagafdnchhaaGreatDoor
open Go.RowKit

/-- each trade within both bands, as they were ahead of it -/
def BandsOk (st dy an : Int) : Int → List Fil → Prop
  | _, [] => True
  | la, f :: fs => allowsB st dy an la f.price = true ∧ BandsOk st dy an f.price fs
theorem BandsOk.snoc {st dy an : Int} : ∀ {fs : List Fil} {la : Int} {f : Fil}, BandsOk st dy an la fs → allowsB st dy an (lastT la (fs.map Fil.price)) f.price = true → BandsOk st dy an la (fs ++ [f])
  | [], _, _, _, h => ⟨h, trivial⟩
  | _ :: _, _, _, ⟨h1, h2⟩, h => ⟨h1, h2.snoc h⟩
theorem lastT_in {P : Int → Prop} : ∀ {ts : List Int} {la : Int}, P la → (∀ t ∈ ts, P t) → P (lastT la ts)
  | [], _, h, _ => h
  | t :: ts, _, _, h => lastT_in (ts := ts) (la := t) (h t (List.mem_cons_self ..)) (fun u hu => h u (List.mem_cons_of_mem _ hu))
structure MF (M : Mkt) (o : Ord) (lots side : Int → Int) (s : MS) : Prop where
  fok : FillsOk side lots s.fs
  kp : Keeps (fillsUp lots s.fs) side s.L
  me : fillsUp lots s.fs o.id = s.q ∧ side o.id = o.side
  new : ∀ x ∈ s.L, x.id ≠ o.id
  ts : s.ts = s.fs.map Fil.price
  bands : BandsOk M.st M.dy M.an M.la s.fs
  nn : 0 ≤ s.q
  sub : ∀ x ∈ s.L, ∃ y ∈ M.L, y.id = x.id ∧ y.side = x.side ∧ y.kind = x.kind ∧ y.price = x.price
  len : s.L.length ≤ M.L.length
  tsr : ∀ t ∈ s.ts, 1 ≤ t ∧ t ≤ 1000000
  who : ∀ f ∈ s.fs, (f.buyer = o.id ∨ ∃ x ∈ M.L, x.id = f.buyer) ∧ (f.seller = o.id ∨ ∃ x ∈ M.L, x.id = f.seller)
theorem less_len (id n : Int) (L : List Ord) : (lessF id n L).length ≤ L.length := by
  unfold lessF
  have := List.length_filter_le (fun o : Ord => decide (0 < o.qty)) (L.map (cutF id n))
  rw [List.length_map] at this
  exact this
theorem mstep_fair {M : Mkt} {o x : Ord} {T : List Ord} {s : MS} {lots side : Int → Int} (h : MF M o lots side s) (hM : MOk (x :: T) s) (hq : 0 < s.q) (hs : o.side = 1 ∨ o.side = 2) (hx : x.side = 3 - o.side) (ha : alM M s.ts x.price = true) : MF M o lots side (mstep o x s) := by
  have hxL := hM.here x (List.mem_cons_self ..)
  have hn := hM.lots hq
  have kx := h.kp x hxL
  have hne : x.id ≠ o.id := h.new x hxL
  have hb : allowsB M.st M.dy M.an (lastT M.la (s.fs.map Fil.price)) x.price = true := by rw [← h.ts]; exact ha
  have hnew : ∀ y ∈ lessF x.id (min s.q x.qty) s.L, y.id ≠ o.id := fun y hy => by
    obtain ⟨z, hz, e, _⟩ := less_id hy
    rw [← e]; exact h.new z hz
  have hsub : ∀ y ∈ lessF x.id (min s.q x.qty) s.L, ∃ z ∈ M.L, z.id = y.id ∧ z.side = y.side ∧ z.kind = y.kind ∧ z.price = y.price := fun y hy => by
    obtain ⟨z, hz, e1, e2, e3, e4⟩ := less_id hy
    obtain ⟨u, hu, f1, f2, f3, f4⟩ := h.sub z hz
    exact ⟨u, hu, by rw [f1, e1], by rw [f2, e2], by rw [f3, e3], by rw [f4, e4]⟩
  obtain ⟨x0, hx0, ex0, _⟩ := h.sub x hxL
  have htsr : ∀ t ∈ s.ts ++ [x.price], 1 ≤ t ∧ t ≤ 1000000 := fun t ht => (List.mem_append.1 ht).elim (h.tsr t) (fun ht => by rw [List.mem_singleton.1 ht]; have := hM.ok.ok x hxL; omega)
  have hlen := Nat.le_trans (less_len x.id (min s.q x.qty) s.L) h.len
  rcases hs with h1 | h1
  · have e : mfill o x (min s.q x.qty) = ⟨o.id, x.id, x.price, min s.q x.qty⟩ := if_pos h1
    unfold mstep
    rw [e]
    refine ⟨h.fok.snoc ⟨hn.1, h.me.2.trans h1, kx.2.trans (by omega), by show min s.q x.qty ≤ fillsUp lots s.fs o.id; rw [h.me.1]; exact hn.2.2, by show min s.q x.qty ≤ fillsUp lots s.fs x.id; rw [kx.1]; exact hn.2.1⟩, ?_, ⟨?_, h.me.2⟩, hnew, by show s.ts ++ [x.price] = _; rw [h.ts, List.map_append]; rfl, h.bands.snoc hb, by show 0 ≤ s.q - min s.q x.qty; omega, hsub, hlen, htsr, fun g hg => (List.mem_append.1 hg).elim (h.who g) (fun hg => by rw [List.mem_singleton.1 hg]; exact ⟨Or.inl rfl, Or.inr ⟨x0, hx0, ex0⟩⟩)⟩
    · rw [fillsUp_snoc]
      exact (h.kp.up h.new).less x.id (min s.q x.qty)
    · rw [fillsUp_snoc]
      show upF (upF (fillsUp lots s.fs) o.id (fillsUp lots s.fs o.id - min s.q x.qty)) x.id _ o.id = s.q - min s.q x.qty
      rw [upF_other (fun e => hne e.symm), upF_same, h.me.1]
  · have e : mfill o x (min s.q x.qty) = ⟨x.id, o.id, x.price, min s.q x.qty⟩ := if_neg (by omega)
    unfold mstep
    rw [e]
    refine ⟨h.fok.snoc ⟨hn.1, kx.2.trans (by omega), h.me.2.trans h1, by show min s.q x.qty ≤ fillsUp lots s.fs x.id; rw [kx.1]; exact hn.2.1, by show min s.q x.qty ≤ fillsUp lots s.fs o.id; rw [h.me.1]; exact hn.2.2⟩, ?_, ⟨?_, h.me.2⟩, hnew, by show s.ts ++ [x.price] = _; rw [h.ts, List.map_append]; rfl, h.bands.snoc hb, by show 0 ≤ s.q - min s.q x.qty; omega, hsub, hlen, htsr, fun g hg => (List.mem_append.1 hg).elim (h.who g) (fun hg => by rw [List.mem_singleton.1 hg]; exact ⟨Or.inr ⟨x0, hx0, ex0⟩, Or.inl rfl⟩)⟩
    · rw [fillsUp_snoc]
      exact (h.kp.less x.id (min s.q x.qty)).up hnew
    · rw [fillsUp_snoc]
      show upF (upF (fillsUp lots s.fs) x.id (fillsUp lots s.fs x.id - min s.q x.qty)) o.id (upF (fillsUp lots s.fs) x.id (fillsUp lots s.fs x.id - min s.q x.qty) o.id - min s.q x.qty) o.id = s.q - min s.q x.qty
      rw [upF_same, upF_other (fun e => hne e.symm), h.me.1]
theorem meetS_fair {M : Mkt} {o : Ord} {lots side : Int → Int} (hs : o.side = 1 ∨ o.side = 2) : ∀ (X : List Ord) (s : MS), MF M o lots side s → MOk X s → (∀ x ∈ X, x.side = 3 - o.side) → MF M o lots side (meetS (alM M) o X s).1
  | [], s, h, _, _ => h
  | x :: T, s, h, hM, hX => by
    by_cases hq : 0 < s.q
    · by_cases hk : x.kind = 2
      · rw [meetS_next hk]
        exact meetS_fair hs T s h hM.pass (fun y hy => hX y (List.mem_cons_of_mem _ hy))
      · by_cases hf : farB o x = true
        · rw [meetS_far hq hk hf]; exact h
        · have hf' : farB o x = false := by simpa using hf
          by_cases ha : alM M s.ts x.price = true
          · rw [meetS_trade hq hk hf' ha]
            exact meetS_fair hs T _ (mstep_fair h hM hq hs (hX x (List.mem_cons_self ..)) ha) (hM.step o hq) (fun y hy => hX y (List.mem_cons_of_mem _ hy))
          · rw [meetS_stop hq hk hf' (by simpa using ha)]; exact h
    · rw [meetS_done (by omega)]; exact h
/-- who is farther than one that is too far is too far -/
theorem far_more {o x y : Ord} (hs : o.side = 1 ∨ o.side = 2) (hx : x.kind ≠ 2) (hy : y.kind ≠ 2) (hr : rankO (3 - o.side) x ≤ rankO (3 - o.side) y) (hf : farB o x = true) : farB o y = true := by
  unfold rankO rankI at hr
  rw [if_neg hx, if_neg hy] at hr
  unfold farB at hf ⊢
  rcases hs with h | h
  · rw [h] at hr hf ⊢
    simp at hr hf ⊢
    exact ⟨hf.1, by omega⟩
  · rw [h] at hr hf ⊢
    simp at hr hf ⊢
    exact ⟨hf.1, by omega⟩
theorem meetS_left {M : Mkt} {o : Ord} (hs : o.side = 1 ∨ o.side = 2) : ∀ (X : List Ord) (s s' : MS), MOk X s → X.Pairwise (fun a b => rankO (3 - o.side) a ≤ rankO (3 - o.side) b) → (∀ x ∈ X, x.kind ≠ 2) → (∀ y ∈ s.L, y.side = 3 - o.side → y ∈ X) → meetS (alM M) o X s = (s', false) → 0 < s'.q → ∀ y ∈ s'.L, y.side = 3 - o.side → farB o y = true
  | [], s, s', _, _, _, hall, e, _ => fun y hy hyS => by
    have e' : (s, false) = (s', false) := e
    injection e' with e' _
    subst e'
    exact absurd (hall y hy hyS) (by simp)
  | x :: T, s, s', hM, hP, hK, hall, e, hq' => fun y hy hyS => by
    by_cases hq : 0 < s.q
    · have hk := hK x (List.mem_cons_self ..)
      by_cases hf : farB o x = true
      · rw [meetS_far hq hk hf] at e
        injection e with e _
        subst e
        rcases List.mem_cons.1 (hall y hy hyS) with rfl | hyT
        · exact hf
        · exact far_more hs hk (hK y (List.mem_cons_of_mem _ hyT)) ((List.pairwise_cons.1 hP).1 y hyT) hf
      · have hf' : farB o x = false := by simpa using hf
        by_cases ha : alM M s.ts x.price = true
        · rw [meetS_trade hq hk hf' ha] at e
          refine meetS_left hs T _ s' (hM.step o hq) (List.pairwise_cons.1 hP).2 (fun z hz => hK z (List.mem_cons_of_mem _ hz)) (fun z hz hzS => ?_) e hq' y hy hyS
          have hpos : 0 < (mstep o x s).q := by
            by_cases h0 : (mstep o x s).q ≤ 0
            · rw [meetS_done h0] at e
              injection e with e _
              subst e
              exact hq'
            · omega
          have hn : min s.q x.qty = x.qty := by
            have : 0 < s.q - min s.q x.qty := hpos
            omega
          obtain ⟨u, hu, e1, hz0⟩ := less_mem (show z ∈ lessF x.id (min s.q x.qty) s.L from hz)
          have hus : u.side = 3 - o.side := by rw [e1, cutF_side] at hzS; exact hzS
          rcases List.mem_cons.1 (hall u hu hus) with hux | huT
          · exfalso
            subst hux
            rw [e1, cutF_hit] at hz0
            have : 0 < u.qty - min s.q u.qty := hz0
            omega
          · have hne : u.id ≠ x.id := fun e2 => (List.nodup_cons.1 hM.ids).1 (by rw [← e2]; exact List.mem_map_of_mem huT)
            rw [e1, cutF_qty hne]; exact huT
        · rw [meetS_stop hq hk hf' (by simpa using ha)] at e
          injection e with _ e
          cases e
    · rw [meetS_done (by omega)] at e
      injection e with e _
      subst e
      omega
end Go.Proofs.YtjdkagafdnchhaaGreatDoor
