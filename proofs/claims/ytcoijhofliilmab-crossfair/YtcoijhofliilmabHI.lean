/-
  What Fills leaves of a side, as plain lists: so many lots off its front, the best first; and how many lots were traded. No program is named here.
-/
import Derived.Test.YtcoijhofliilmabHH
import Derived.Test.YtcoijhofliilmabHA
namespace Go.Proofs.Ytcoijhofliilmab
open Go.RowKit

/-- n lots off the front -/
def eatL : Int → List Ord → List Ord
  | _, [] => []
  | n, x :: T => if n < x.qty then (if n ≤ 0 then x :: T else cutO n x :: T) else eatL (n - x.qty) T
theorem eat_none : ∀ {Z : List Ord}, (∀ o ∈ Z, 1 ≤ o.qty) → eatL 0 Z = Z
  | [], _ => rfl
  | x :: T, h => by
    have := h x (List.mem_cons_self ..)
    rw [eatL, if_pos (by omega), if_pos (by omega)]
/-- n lots more, of the one that is first -/
theorem eat_step : ∀ {Z : List Ord} {n0 n : Int} {x : Ord} {T : List Ord}, (∀ o ∈ Z, 1 ≤ o.qty) → 0 ≤ n0 → eatL n0 Z = x :: T → 1 ≤ n → n ≤ x.qty → eatL (n0 + n) Z = if x.qty = n then T else cutO n x :: T
  | [], _, _, _, _, _, _, h, _, _ => by cases h
  | z :: Z, n0, n, x, T, hz, h0, h, h1, h2 => by
    have hz1 := hz z (List.mem_cons_self ..)
    have hzs : ∀ o ∈ Z, 1 ≤ o.qty := fun o ho => hz o (List.mem_cons_of_mem _ ho)
    rw [eatL] at h ⊢
    by_cases hn : n0 < z.qty
    · rw [if_pos hn] at h
      by_cases hn0 : n0 ≤ 0
      · obtain rfl : n0 = 0 := by omega
        rw [if_pos hn0] at h
        injection h with e1 e2
        subst e1 e2
        rw [Int.zero_add]
        by_cases e : z.qty = n
        · rw [if_neg (by omega), if_pos e, show n - z.qty = 0 by omega, eat_none hzs]
        · rw [if_pos (by omega), if_neg (by omega), if_neg e]
      · rw [if_neg hn0] at h
        injection h with e1 e2
        subst e1 e2
        have hq : (cutO n0 z).qty = z.qty - n0 := rfl
        rw [hq] at h2 ⊢
        by_cases e : z.qty - n0 = n
        · rw [if_neg (by omega), if_pos e, show n0 + n - z.qty = 0 by omega, eat_none hzs]
        · rw [if_pos (by omega), if_neg (by omega), if_neg e]
          congr 1
          show ({ z with qty := z.qty - (n0 + n) } : Ord) = { z with qty := z.qty - n0 - n }
          rw [Int.sub_sub]
    · rw [if_neg hn] at h
      rw [if_neg (by omega), show n0 + n - z.qty = n0 - z.qty + n by omega]
      exact eat_step hzs (by omega) h h1 h2
theorem fiter_q {p : Int} {s : FS} (h : FOk p s) : ∀ k, (∀ j, j < k → 0 < (fiter p s j).q) → 0 ≤ (fiter p s k).q ∧ (fiter p s k).q ≤ s.q
  | 0, _ => ⟨h.nn, Int.le_refl _⟩
  | k + 1, hq => by
    have h1 := fiter_ok h (k + 1) hq
    obtain ⟨_, h2⟩ := fiter_q h k (fun j hj => hq j (by omega))
    obtain ⟨⟨x, T, y, U, hr⟩, _⟩ := fstep_ok (fiter_ok h k (fun j hj => hq j (by omega))) (hq k (by omega))
    have n1 := hr.2.2.2.2.2.2.2.1
    have e : (fiter p s (k + 1)).q = (fiter p s k).q - lotN (fiter p s k) := rfl
    exact ⟨h1.nn, by omega⟩
/-- both sides, behind k trades -/
theorem fiter_eat {p : Int} {s : FS} (h : FOk p s) : ∀ k, (∀ j, j < k → 0 < (fiter p s j).q) → sideO 1 (fiter p s k).L = eatL (s.q - (fiter p s k).q) (sideO 1 s.L) ∧ sideO 2 (fiter p s k).L = eatL (s.q - (fiter p s k).q) (sideO 2 s.L)
  | 0, _ => by
    have hq : ∀ t, ∀ o ∈ sideO t s.L, 1 ≤ o.qty := fun t o ho => (h.ok.ok o (sideO_mem.1 ho).1).2.2.1
    show sideO 1 s.L = eatL (s.q - s.q) _ ∧ sideO 2 s.L = eatL (s.q - s.q) _
    rw [Int.sub_self, eat_none (hq 1), eat_none (hq 2)]
    exact ⟨rfl, rfl⟩
  | k + 1, hq => by
    have hk : ∀ j, j < k → 0 < (fiter p s j).q := fun j hj => hq j (by omega)
    have hz : ∀ t, ∀ o ∈ sideO t s.L, 1 ≤ o.qty := fun t o ho => (h.ok.ok o (sideO_mem.1 ho).1).2.2.1
    obtain ⟨i1, i2⟩ := fiter_eat h k hk
    have hb := fiter_q h k hk
    have hO := fiter_ok h k hk
    obtain ⟨⟨x, T, y, U, hS1, hS2, _, _, hxL, hyL, _, n1, n2, n3, n4, _, hL, _, _, ok1⟩, _⟩ := fstep_ok hO (hq k (by omega))
    have e : (fiter p s (k + 1)).q = (fiter p s k).q - lotN (fiter p s k) := rfl
    have eL : (fiter p s (k + 1)).L = lessF y.id (lotN (fiter p s k)) (lessF x.id (lotN (fiter p s k)) (fiter p s k).L) := hL
    rw [e, eL, show s.q - ((fiter p s k).q - lotN (fiter p s k)) = s.q - (fiter p s k).q + lotN (fiter p s k) by omega]
    rw [hS1] at i1
    rw [hS2] at i2
    have hx1 : x ∈ sideO 1 (fiter p s k).L := by rw [hS1]; exact List.mem_cons_self ..
    have s2 : sideO 2 (lessF x.id (lotN (fiter p s k)) (fiter p s k).L) = y :: U := (side_other hO.ok hx1 (by decide)).trans hS2
    have hy2 : y ∈ sideO 2 (lessF x.id (lotN (fiter p s k)) (fiter p s k).L) := by rw [s2]; exact List.mem_cons_self ..
    refine ⟨?_, ?_⟩
    · rw [side_other ok1 hy2 (by decide), side_best hO.ok hS1 n3, eat_step (hz 1) (by omega) i1.symm n1 n3]
    · rw [side_best ok1 s2 n4, eat_step (hz 2) (by omega) i2.symm n1 n4]
def sumF (l : List Fil) : Int := l.foldl (fun n f => n + f.qty) 0
theorem sumF_snoc (l : List Fil) (f : Fil) : sumF (l ++ [f]) = sumF l + f.qty := by unfold sumF; rw [List.foldl_append]; rfl
/-- just so many lots are traded -/
theorem fiter_sum {p : Int} {L : List Ord} {q : Int} : ∀ k, sumF (fiter p ⟨[], L, q⟩ k).fs = q - (fiter p ⟨[], L, q⟩ k).q
  | 0 => by show (0 : Int) = q - q; omega
  | k + 1 => by
    have ih := fiter_sum (p := p) (L := L) (q := q) k
    have e : (fiter p ⟨[], L, q⟩ (k + 1)).q = (fiter p ⟨[], L, q⟩ k).q - lotN (fiter p ⟨[], L, q⟩ k) := rfl
    show sumF ((fiter p ⟨[], L, q⟩ k).fs ++ [_]) = _
    rw [sumF_snoc, ih, e]
    show q - (fiter p ⟨[], L, q⟩ k).q + lotN (fiter p ⟨[], L, q⟩ k) = _
    omega
end Go.Proofs.Ytcoijhofliilmab

/-
  How many lots of each order Fills trades, as plain lists: what it had, less what is left. No program is named here.
-/
namespace Go.Proofs.Ytcoijhofliilmab
open Go.RowKit

/-- the lots of whoever has this number -/
def lotsOf (id : Int) : List Ord → Int
  | [] => 0
  | o :: T => (if o.id = id then o.qty else 0) + lotsOf id T
theorem lots_none {id : Int} : ∀ {L : List Ord}, (∀ o ∈ L, o.id ≠ id) → lotsOf id L = 0
  | [], _ => rfl
  | o :: T, h => by rw [lotsOf, if_neg (h o (List.mem_cons_self ..)), lots_none (fun x hx => h x (List.mem_cons_of_mem _ hx))]; rfl
theorem lots_one : ∀ {L : List Ord} {o : Ord}, (L.map Ord.id).Nodup → o ∈ L → lotsOf o.id L = o.qty
  | z :: T, o, hn, ho => by
    rw [List.map_cons, List.nodup_cons] at hn
    rcases List.mem_cons.1 ho with rfl | ho
    · rw [lotsOf, if_pos rfl, lots_none (fun x hx e => hn.1 (by rw [← e]; exact List.mem_map_of_mem hx)), Int.add_zero]
    · have hne : z.id ≠ o.id := fun e => hn.1 (by rw [e]; exact List.mem_map_of_mem ho)
      rw [lotsOf, if_neg hne, lots_one hn.2 ho, Int.zero_add]
theorem less_cons (id n : Int) (o : Ord) (T : List Ord) : lessF id n (o :: T) = (if 0 < (cutF id n o).qty then [cutF id n o] else []) ++ lessF id n T := by
  unfold lessF
  rw [List.map_cons]
  by_cases h : 0 < (cutF id n o).qty
  · rw [List.filter_cons_of_pos (by simpa using h), if_pos h]; rfl
  · rw [List.filter_cons_of_neg (by simpa using h), if_neg h]; rfl
theorem lots_other {id id' n : Int} (hne : id' ≠ id) : ∀ {L : List Ord}, (∀ o ∈ L, 1 ≤ o.qty) → lotsOf id' (lessF id n L) = lotsOf id' L
  | [], _ => rfl
  | o :: T, h => by
    have ih := lots_other (n := n) hne (L := T) (fun x hx => h x (List.mem_cons_of_mem _ hx))
    have ho := h o (List.mem_cons_self ..)
    rw [less_cons]
    by_cases e : o.id = id
    · have e2 : ¬ o.id = id' := fun e' => hne (e'.symm.trans e)
      have e3 : ¬ (cutF id n o).id = id' := by rw [cutF_id]; exact e2
      rw [lotsOf, if_neg e2, ← ih]
      split
      · rw [List.singleton_append, lotsOf, if_neg e3]
      · rw [List.nil_append]; omega
    · rw [cutF_qty e, if_pos (by omega), List.singleton_append, lotsOf, lotsOf, ih]
theorem lots_hit {n : Int} : ∀ {L : List Ord} {o : Ord}, (L.map Ord.id).Nodup → (∀ x ∈ L, 1 ≤ x.qty) → o ∈ L → n ≤ o.qty → lotsOf o.id (lessF o.id n L) = lotsOf o.id L - n
  | z :: T, o, hn, hq, ho, hle => by
    rw [List.map_cons, List.nodup_cons] at hn
    have hqT : ∀ x ∈ T, 1 ≤ x.qty := fun x hx => hq x (List.mem_cons_of_mem _ hx)
    rw [less_cons]
    rcases List.mem_cons.1 ho with rfl | ho
    · have hT : ∀ x ∈ T, x.id ≠ o.id := fun x hx e => hn.1 (by rw [← e]; exact List.mem_map_of_mem hx)
      have e0 : lessF o.id n T = T := less_none hT hqT
      have eq : (cutO n o).qty = o.qty - n := rfl
      have ei : (cutO n o).id = o.id := rfl
      rw [e0, cutF_hit, lotsOf, if_pos rfl, lots_none hT]
      split
      · rw [List.singleton_append, lotsOf, if_pos ei, lots_none hT, eq]; omega
      · rw [List.nil_append, lots_none hT]; omega
    · have hne : z.id ≠ o.id := fun e => hn.1 (by rw [e]; exact List.mem_map_of_mem ho)
      have ih := lots_hit hn.2 hqT ho hle
      rw [cutF_qty hne, if_pos (by have := hq z (List.mem_cons_self ..); omega), List.singleton_append, lotsOf, lotsOf, if_neg hne, ih]
      omega
/-- lots that somebody traded, bought or sold -/
def trdF (id : Int) : List Fil → Int
  | [] => 0
  | f :: T => (if f.buyer = id ∨ f.seller = id then f.qty else 0) + trdF id T
theorem trd_snoc (id : Int) (f : Fil) : ∀ l : List Fil, trdF id (l ++ [f]) = trdF id l + (if f.buyer = id ∨ f.seller = id then f.qty else 0)
  | [] => by show trdF id [f] = 0 + _; rw [trdF, trdF]; omega
  | g :: T => by rw [List.cons_append, trdF, trdF, trd_snoc id f T]; omega
/-- who traded has so many lots less -/
theorem fiter_trd {p : Int} {L : List Ord} {q : Int} (h : FOk p ⟨[], L, q⟩) (id : Int) : ∀ k, (∀ j, j < k → 0 < (fiter p ⟨[], L, q⟩ j).q) → trdF id (fiter p ⟨[], L, q⟩ k).fs = lotsOf id L - lotsOf id (fiter p ⟨[], L, q⟩ k).L
  | 0, _ => by show (0 : Int) = lotsOf id L - lotsOf id L; omega
  | k + 1, hq => by
    have hk : ∀ j, j < k → 0 < (fiter p ⟨[], L, q⟩ j).q := fun j hj => hq j (by omega)
    have ih := fiter_trd h id k hk
    have hO := fiter_ok h k hk
    obtain ⟨⟨x, T, y, U, hS1, hS2, hbx, hby, hxL, hyL, hyl, n1, n2, n3, n4, _, hL, _, _, ok1⟩, _⟩ := fstep_ok hO (hq k (by omega))
    have hx1 : x ∈ sideO 1 (fiter p ⟨[], L, q⟩ k).L := by rw [hS1]; exact List.mem_cons_self ..
    have hy2 : y ∈ sideO 2 (fiter p ⟨[], L, q⟩ k).L := by rw [hS2]; exact List.mem_cons_self ..
    have hne : x.id ≠ y.id := fun e => by
      have e1 := id_inj hO.ok.ids hxL hyL e
      have s1 := (sideO_mem.1 hx1).2
      have s2 := (sideO_mem.1 hy2).2
      rw [e1] at s1
      omega
    have eL : (fiter p ⟨[], L, q⟩ (k + 1)).L = lessF y.id (lotN (fiter p ⟨[], L, q⟩ k)) (lessF x.id (lotN (fiter p ⟨[], L, q⟩ k)) (fiter p ⟨[], L, q⟩ k).L) := hL
    have ef : (fiter p ⟨[], L, q⟩ (k + 1)).fs = (fiter p ⟨[], L, q⟩ k).fs ++ [⟨x.id, y.id, p, lotN (fiter p ⟨[], L, q⟩ k)⟩] := by
      show (fiter p ⟨[], L, q⟩ k).fs ++ [_] = _
      rw [hbx, hby]
    have q0 : ∀ o ∈ (fiter p ⟨[], L, q⟩ k).L, 1 ≤ o.qty := fun o ho => (hO.ok.ok o ho).2.2.1
    have q1 : ∀ o ∈ lessF x.id (lotN (fiter p ⟨[], L, q⟩ k)) (fiter p ⟨[], L, q⟩ k).L, 1 ≤ o.qty := fun o ho => (ok1.ok o ho).2.2.1
    rw [eL, ef, trd_snoc, ih]
    show lotsOf id L - lotsOf id (fiter p ⟨[], L, q⟩ k).L + (if x.id = id ∨ y.id = id then lotN (fiter p ⟨[], L, q⟩ k) else 0) = _
    by_cases ex : x.id = id
    · subst ex
      rw [if_pos (Or.inl rfl), lots_other hne q1, lots_hit hO.ok.ids q0 hxL n3]; omega
    · by_cases ey : y.id = id
      · subst ey
        rw [if_pos (Or.inr rfl), lots_hit ok1.ids q1 hyl n4, lots_other (fun e => hne e.symm) q0]; omega
      · rw [if_neg (fun e => e.elim ex ey), lots_other (fun e => ey e.symm) q1, lots_other (fun e => ex e.symm) q0]; omega
end Go.Proofs.Ytcoijhofliilmab

/-
  Nobody is passed by: of a side that has lots off its front, who lies ahead of somebody that has lots less has none left. Plain lists; no program is named here.
-/
namespace Go.Proofs.Ytcoijhofliilmab
open Go.RowKit

def sumO : List Ord → Int
  | [] => 0
  | o :: T => o.qty + sumO T
theorem sumO_nn : ∀ {l : List Ord}, (∀ o ∈ l, 1 ≤ o.qty) → 0 ≤ sumO l
  | [], _ => Int.le_refl _
  | o :: T, h => by
    have := sumO_nn (l := T) (fun x hx => h x (List.mem_cons_of_mem _ hx))
    have := h o (List.mem_cons_self ..)
    rw [sumO]; omega
theorem eat_mem : ∀ {Z : List Ord} {q : Int} {y : Ord}, y ∈ eatL q Z → ∃ x ∈ Z, x.id = y.id
  | [], _, _, h => by cases h
  | z :: Z, q, y, h => by
    rw [eatL] at h
    split at h
    · split at h
      · exact ⟨y, h, rfl⟩
      · rcases List.mem_cons.1 h with rfl | h
        · exact ⟨z, List.mem_cons_self .., rfl⟩
        · exact ⟨y, List.mem_cons_of_mem _ h, rfl⟩
    · obtain ⟨x, hx, e⟩ := eat_mem h
      exact ⟨x, List.mem_cons_of_mem _ hx, e⟩
theorem lots_eat_none {id : Int} {Z : List Ord} (h : ∀ x ∈ Z, x.id ≠ id) (q : Int) : lotsOf id (eatL q Z) = 0 := lots_none (fun y hy e => by
  obtain ⟨x, hx, e'⟩ := eat_mem hy
  exact h x hx (e'.trans e))
/-- what is left of somebody, by the lots of those ahead -/
theorem eat_lots : ∀ {A T : List Ord} {o : Ord} {q : Int}, ((A ++ o :: T).map Ord.id).Nodup → (∀ x ∈ A ++ o :: T, 1 ≤ x.qty) → 0 ≤ q →
    lotsOf o.id (eatL q (A ++ o :: T)) = if q ≤ sumO A then o.qty else if q < sumO A + o.qty then sumO A + o.qty - q else 0
  | [], T, o, q, hn, hq, h0 => by
    rw [List.nil_append] at hn hq ⊢
    have ho := hq o (List.mem_cons_self ..)
    have hn2 := hn
    rw [List.map_cons, List.nodup_cons] at hn
    have hT : ∀ x ∈ T, x.id ≠ o.id := fun x hx e => hn.1 (by rw [← e]; exact List.mem_map_of_mem hx)
    have hqT : ∀ x ∈ T, 1 ≤ x.qty := fun x hx => hq x (List.mem_cons_of_mem _ hx)
    rw [eatL, sumO]
    by_cases h1 : q < o.qty
    · rw [if_pos h1]
      by_cases h2 : q ≤ 0
      · rw [if_pos h2, if_pos h2, lots_one hn2 (List.mem_cons_self ..)]
      · have ei : (cutO q o).id = o.id := rfl
        have eq : (cutO q o).qty = o.qty - q := rfl
        rw [if_neg h2, if_neg h2, if_pos (show q < 0 + o.qty by omega), lotsOf, if_pos ei, lots_none hT, eq]; omega
    · rw [if_neg h1, if_neg (show ¬ q ≤ 0 by omega), if_neg (show ¬ q < 0 + o.qty by omega)]
      exact lots_eat_none hT (q - o.qty)
  | a :: A, T, o, q, hn, hq, h0 => by
    rw [List.cons_append] at hn hq ⊢
    have ha := hq a (List.mem_cons_self ..)
    have hn2 := hn
    rw [List.map_cons, List.nodup_cons] at hn
    have hoi : o ∈ A ++ o :: T := List.mem_append_right _ (List.mem_cons_self ..)
    have hne : ¬ a.id = o.id := fun e => hn.1 (by rw [e]; exact List.mem_map_of_mem hoi)
    have hqT : ∀ x ∈ A ++ o :: T, 1 ≤ x.qty := fun x hx => hq x (List.mem_cons_of_mem _ hx)
    have hA : 0 ≤ sumO A := sumO_nn (fun x hx => hqT x (List.mem_append_left _ hx))
    rw [eatL, sumO]
    by_cases h1 : q < a.qty
    · rw [if_pos h1, if_pos (show q ≤ a.qty + sumO A by omega)]
      by_cases h2 : q ≤ 0
      · rw [if_pos h2, lots_one hn2 (List.mem_cons_of_mem _ hoi)]
      · have ei : ¬ (cutO q a).id = o.id := hne
        rw [if_neg h2, lotsOf, if_neg ei, lots_one hn.2 hoi, Int.zero_add]
    · rw [if_neg h1, eat_lots hn.2 hqT (by omega)]
      by_cases h3 : q - a.qty ≤ sumO A
      · rw [if_pos h3, if_pos (show q ≤ a.qty + sumO A by omega)]
      · rw [if_neg h3, if_neg (show ¬ q ≤ a.qty + sumO A by omega)]
        by_cases h4 : q - a.qty < sumO A + o.qty
        · rw [if_pos h4, if_pos (show q < a.qty + sumO A + o.qty by omega)]; omega
        · rw [if_neg h4, if_neg (show ¬ q < a.qty + sumO A + o.qty by omega)]
end Go.Proofs.Ytcoijhofliilmab

/-
  Nobody is passed by (8.1): of each side, whoever lies ahead of somebody that traded has traded all its lots; nobody trades more than it had. Plain lists; no program is named here.
-/
namespace Go.Proofs.Ytcoijhofliilmab
open Go.RowKit

theorem lots_perm {id : Int} {l l' : List Ord} (h : l.Perm l') : lotsOf id l = lotsOf id l' := by
  induction h with
  | nil => rfl
  | cons x _ ih => rw [lotsOf, lotsOf, ih]
  | swap x y l => rw [lotsOf, lotsOf, lotsOf, lotsOf]; omega
  | trans _ _ i1 i2 => exact i1.trans i2
theorem lots_filter {id : Int} (f : Ord → Bool) : ∀ {l : List Ord}, (∀ o ∈ l, o.id = id → f o = true) → lotsOf id (l.filter f) = lotsOf id l
  | [], _ => rfl
  | o :: T, h => by
    have ih := lots_filter f (l := T) (fun x hx => h x (List.mem_cons_of_mem _ hx))
    by_cases hf : f o = true
    · rw [List.filter_cons_of_pos hf, lotsOf, lotsOf, ih]
    · have hne : ¬ o.id = id := fun e => hf (h o (List.mem_cons_self ..) e)
      rw [List.filter_cons_of_neg hf, lotsOf, if_neg hne, ih, Int.zero_add]
theorem lots_side {id s : Int} {l : List Ord} (h : ∀ o ∈ l, o.id = id → o.side = s) : lotsOf id (sideO s l) = lotsOf id l := by
  have h1 : lotsOf id (sideO s l) = lotsOf id (onSide s l) := lots_perm (ssort_perm (rankO s) (onSide s l))
  rw [h1]
  exact lots_filter _ (fun o ho e => by simpa using h o ho e)
/-- whoever lies came from the first list -/
theorem fiter_from {p : Int} {s : FS} (h : FOk p s) : ∀ k, (∀ j, j < k → 0 < (fiter p s j).q) → ∀ y ∈ (fiter p s k).L, ∃ x ∈ s.L, x.id = y.id ∧ x.side = y.side
  | 0, _ => fun y hy => ⟨y, hy, rfl, rfl⟩
  | k + 1, hq => fun y hy => by
    have hk : ∀ j, j < k → 0 < (fiter p s j).q := fun j hj => hq j (by omega)
    obtain ⟨⟨x, T, z, U, hr⟩, _⟩ := fstep_ok (fiter_ok h k hk) (hq k (by omega))
    have eL : (fiter p s (k + 1)).L = lessF z.id (lotN (fiter p s k)) (lessF x.id (lotN (fiter p s k)) (fiter p s k).L) := hr.2.2.2.2.2.2.2.2.2.2.2.2.1
    rw [eL] at hy
    obtain ⟨y1, hy1, e1, _⟩ := less_mem hy
    obtain ⟨y2, hy2, e2, _⟩ := less_mem hy1
    obtain ⟨x0, hx0, i1, i2⟩ := fiter_from h k hk y2 hy2
    refine ⟨x0, hx0, ?_, ?_⟩
    · rw [e1, cutF_id, e2, cutF_id]; exact i1
    · rw [e1, cutF_side, e2, cutF_side]; exact i2
section
variable {p q : Int} {L : List Ord} {k : Nat}
/-- lots traded by one of a side -/
theorem fair_trd (h : FOk p ⟨[], L, q⟩) (hq : ∀ j, j < k → 0 < (fiter p ⟨[], L, q⟩ j).q) {s : Int} (hs : s = 1 ∨ s = 2) {o : Ord} (ho : o ∈ sideO s L) :
    trdF o.id (fiter p ⟨[], L, q⟩ k).fs = o.qty - lotsOf o.id (eatL (q - (fiter p ⟨[], L, q⟩ k).q) (sideO s L)) := by
  obtain ⟨hoL, hos⟩ := sideO_mem.1 ho
  have e1 := fiter_trd h o.id k hq
  have e2 : sideO s (fiter p ⟨[], L, q⟩ k).L = eatL (q - (fiter p ⟨[], L, q⟩ k).q) (sideO s L) := by
    obtain ⟨i1, i2⟩ := fiter_eat h k hq
    rcases hs with rfl | rfl
    · exact i1
    · exact i2
  have e3 : lotsOf o.id (sideO s (fiter p ⟨[], L, q⟩ k).L) = lotsOf o.id (fiter p ⟨[], L, q⟩ k).L := lots_side (fun y hy e => by
    obtain ⟨x, hx, i1, i2⟩ := fiter_from h k hq y hy
    have := id_inj h.ok.ids hx hoL (i1.trans e)
    rw [← i2, this]; exact hos)
  rw [e1, lots_one h.ok.ids hoL, ← e2, e3]
/-- nobody trades more than it had; ahead of somebody who traded nobody has lots left -/
theorem fair_side (h : FOk p ⟨[], L, q⟩) (hq : ∀ j, j < k → 0 < (fiter p ⟨[], L, q⟩ j).q) {s : Int} (hs : s = 1 ∨ s = 2) {A T : List Ord} {o : Ord} (hz : sideO s L = A ++ o :: T) :
    0 ≤ trdF o.id (fiter p ⟨[], L, q⟩ k).fs ∧ trdF o.id (fiter p ⟨[], L, q⟩ k).fs ≤ o.qty ∧ (0 < trdF o.id (fiter p ⟨[], L, q⟩ k).fs → sumO A < q - (fiter p ⟨[], L, q⟩ k).q) ∧ (sumO A + o.qty ≤ q - (fiter p ⟨[], L, q⟩ k).q → trdF o.id (fiter p ⟨[], L, q⟩ k).fs = o.qty) := by
  have ho : o ∈ sideO s L := by rw [hz]; exact List.mem_append_right _ (List.mem_cons_self ..)
  have hb := fiter_q h k hq
  have hqs : ∀ x ∈ A ++ o :: T, 1 ≤ x.qty := fun x hx => (h.ok.ok x (sideO_mem.1 (by rw [hz]; exact hx)).1).2.2.1
  have hnd : ((A ++ o :: T).map Ord.id).Nodup := by rw [← hz]; exact side_ids h.ok s
  have hbb : (fiter p ⟨[], L, q⟩ k).q ≤ q := hb.2
  have e := fair_trd h hq hs ho
  rw [hz, eat_lots hnd hqs (by omega)] at e
  have hoq := hqs o (List.mem_append_right _ (List.mem_cons_self ..))
  have hA : 0 ≤ sumO A := sumO_nn (fun x hx => hqs x (List.mem_append_left _ hx))
  rw [e]
  split
  · exact ⟨by omega, by omega, fun h => by omega, fun h => by omega⟩
  · split
    · exact ⟨by omega, by omega, fun h => by omega, fun h => by omega⟩
    · exact ⟨by omega, by omega, fun h => by omega, fun h => by omega⟩
end
end Go.Proofs.Ytcoijhofliilmab

/-
  Who trades is willing (8.1), at that price, one lot at least, one of each side. Plain lists; no program is named here.
-/
namespace Go.Proofs.Ytcoijhofliilmab
open Go.RowKit

theorem fiter_whole {p : Int} {s : FS} (h : FOk p s) : ∀ k, (∀ j, j < k → 0 < (fiter p s j).q) → ∀ y ∈ (fiter p s k).L, ∃ x ∈ s.L, x.id = y.id ∧ x.side = y.side ∧ x.kind = y.kind ∧ x.price = y.price
  | 0, _ => fun y hy => ⟨y, hy, rfl, rfl, rfl, rfl⟩
  | k + 1, hq => fun y hy => by
    have hk : ∀ j, j < k → 0 < (fiter p s j).q := fun j hj => hq j (by omega)
    obtain ⟨⟨x, T, z, U, hr⟩, _⟩ := fstep_ok (fiter_ok h k hk) (hq k (by omega))
    have eL : (fiter p s (k + 1)).L = lessF z.id (lotN (fiter p s k)) (lessF x.id (lotN (fiter p s k)) (fiter p s k).L) := hr.2.2.2.2.2.2.2.2.2.2.2.2.1
    rw [eL] at hy
    obtain ⟨y1, hy1, e1, _⟩ := less_mem hy
    obtain ⟨y2, hy2, e2, _⟩ := less_mem hy1
    obtain ⟨x0, hx0, i1, i2, i3, i4⟩ := fiter_whole h k hk y2 hy2
    refine ⟨x0, hx0, ?_, ?_, ?_, ?_⟩
    · rw [e1, cutF_id, e2, cutF_id]; exact i1
    · rw [e1, cutF_side, e2, cutF_side]; exact i2
    · rw [e1, cutF_kind, e2, cutF_kind]; exact i3
    · rw [e1, cutF_price, e2, cutF_price]; exact i4
theorem wil_same {s p : Int} {x y : Ord} (h1 : x.kind = y.kind) (h2 : x.price = y.price) : wilB s p x = wilB s p y := by
  unfold wilB
  rw [h1, h2]
/-- each trade is of a buyer and a seller that are willing -/
theorem fiter_who {p : Int} {L : List Ord} {q : Int} (h : FOk p ⟨[], L, q⟩) : ∀ k, (∀ j, j < k → 0 < (fiter p ⟨[], L, q⟩ j).q) → ∀ f ∈ (fiter p ⟨[], L, q⟩ k).fs, f.price = p ∧ 1 ≤ f.qty ∧ (∃ x ∈ L, x.id = f.buyer ∧ x.side = 1 ∧ wilB 1 p x = true) ∧ ∃ y ∈ L, y.id = f.seller ∧ y.side = 2 ∧ wilB 2 p y = true
  | 0, _ => fun f hf => by cases hf
  | k + 1, hq => fun f hf => by
    have hk : ∀ j, j < k → 0 < (fiter p ⟨[], L, q⟩ j).q := fun j hj => hq j (by omega)
    have hO := fiter_ok h k hk
    have hqk := hq k (by omega)
    obtain ⟨⟨x, T, y, U, hS1, hS2, hbx, hby, hxL, hyL, _, n1, _⟩, _⟩ := fstep_ok hO hqk
    obtain ⟨x', T', hS1', _, hxs, hxw⟩ := best_wil hO.ok (s := 1) (p := p) (Or.inl rfl) (by have := hO.buy; omega)
    obtain ⟨y', U', hS2', _, hys, hyw⟩ := best_wil hO.ok (s := 2) (p := p) (Or.inr rfl) (by have := hO.sell; omega)
    rw [hS1] at hS1'
    rw [hS2] at hS2'
    injection hS1' with ex _
    injection hS2' with ey _
    subst ex ey
    have hf2 : f ∈ (fiter p ⟨[], L, q⟩ k).fs ++ [⟨x.id, y.id, p, lotN (fiter p ⟨[], L, q⟩ k)⟩] := by
      have e : (fiter p ⟨[], L, q⟩ (k + 1)).fs = (fiter p ⟨[], L, q⟩ k).fs ++ [⟨x.id, y.id, p, lotN (fiter p ⟨[], L, q⟩ k)⟩] := by
        show (fiter p ⟨[], L, q⟩ k).fs ++ [_] = _
        rw [hbx, hby]
      rw [← e]; exact hf
    rcases List.mem_append.1 hf2 with hf3 | hf3
    · exact fiter_who h k hk f hf3
    · rw [List.mem_singleton] at hf3
      subst hf3
      obtain ⟨x0, hx0, a1, a2, a3, a4⟩ := fiter_whole h k hk x hxL
      obtain ⟨y0, hy0, b1, b2, b3, b4⟩ := fiter_whole h k hk y hyL
      exact ⟨rfl, n1, ⟨x0, hx0, a1, a2.trans hxs, (wil_same a3 a4).trans hxw⟩, ⟨y0, hy0, b1, b2.trans hys, (wil_same b3 b4).trans hyw⟩⟩
/-- who traded something is in some trade -/
theorem trd_some {id : Int} : ∀ {l : List Fil}, 0 < trdF id l → ∃ f ∈ l, f.buyer = id ∨ f.seller = id
  | [], h => by rw [trdF] at h; omega
  | f :: T, h => by
    by_cases e : f.buyer = id ∨ f.seller = id
    · exact ⟨f, List.mem_cons_self .., e⟩
    · rw [trdF, if_neg e, Int.zero_add] at h
      obtain ⟨g, hg, e'⟩ := trd_some h
      exact ⟨g, List.mem_cons_of_mem _ hg, e'⟩
/-- and willing -/
theorem fair_wil {p q : Int} {L : List Ord} {k : Nat} (h : FOk p ⟨[], L, q⟩) (hq : ∀ j, j < k → 0 < (fiter p ⟨[], L, q⟩ j).q) {o : Ord} (ho : o ∈ L) (ht : 0 < trdF o.id (fiter p ⟨[], L, q⟩ k).fs) : wilB o.side p o = true := by
  obtain ⟨f, hf, e⟩ := trd_some ht
  obtain ⟨_, _, ⟨x, hx, a1, a2, a3⟩, ⟨y, hy, b1, b2, b3⟩⟩ := fiter_who h k hq f hf
  rcases e with e | e
  · obtain rfl := id_inj h.ok.ids hx ho (a1.trans e)
    rw [a2]; exact a3
  · obtain rfl := id_inj h.ok.ids hy ho (b1.trans e)
    rw [b2]; exact b3
end Go.Proofs.Ytcoijhofliilmab

/-
  Behind an auction nobody lies who could trade (8.1, 6): where no price does more, and just the lots of the best price are off both fronts. Plain lists; no program is named here.
-/
namespace Go.Proofs.Ytcoijhofliilmab
open Go.RowKit

/-- who ranks ahead of somebody that is willing is willing -/
theorem rank_wil {L : List Ord} (h : LOk L) {s p : Int} (hs : s = 1 ∨ s = 2) {x o : Ord} (hx : x ∈ L) (ho : o ∈ L) (hr : rankO s x ≤ rankO s o) (hw : wilB s p o = true) : wilB s p x = true := by
  have px := h.ok x hx
  have po := h.ok o ho
  unfold rankO rankI at hr
  unfold wilB at hw ⊢
  by_cases kx : x.kind = 2
  · rw [kx]; rfl
  · rw [if_neg kx] at hr
    by_cases ko : o.kind = 2
    · rw [if_pos ko] at hr
      split at hr <;> omega
    · rw [if_neg ko] at hr
      have kob : (o.kind == 2) = false := beq_eq_false_iff_ne.2 ko
      have kxb : (x.kind == 2) = false := beq_eq_false_iff_ne.2 kx
      rw [kob, Bool.false_or] at hw
      rw [kxb, Bool.false_or]
      rcases hs with rfl | rfl
      · rw [if_pos rfl, if_pos rfl] at hr
        simp at hw ⊢; omega
      · rw [if_neg (by decide), if_neg (by decide)] at hr
        simp at hw ⊢; omega
theorem wilL_perm {s p : Int} {l l' : List Ord} (h : l.Perm l') : wilL s p l = wilL s p l' := by
  induction h with
  | nil => rfl
  | cons x _ ih => rw [wilL_cons, wilL_cons, ih]
  | swap x y l => rw [wilL_cons, wilL_cons, wilL_cons, wilL_cons]; omega
  | trans _ _ i1 i2 => exact i1.trans i2
theorem wilL_filter {s p : Int} : ∀ l : List Ord, wilL s p (onSide s l) = wilL s p l
  | [] => rfl
  | o :: T => by
    have ih := wilL_filter (s := s) (p := p) T
    unfold onSide at ih ⊢
    by_cases hf : (o.side == s) = true
    · rw [List.filter_cons_of_pos (p := fun x : Ord => x.side == s) hf, wilL_cons, wilL_cons, ih]
    · rw [List.filter_cons_of_neg (p := fun x : Ord => x.side == s) hf, wilL_cons, ih, if_neg (by simp only [Bool.and_eq_true]; exact fun e => hf e.1), Int.zero_add]
theorem wilL_side (s p : Int) (l : List Ord) : wilL s p (sideO s l) = wilL s p l :=
  (wilL_perm (ssort_perm (rankO s) (onSide s l))).trans (wilL_filter l)
theorem wilL_nn {s p : Int} : ∀ {l : List Ord}, (∀ o ∈ l, 1 ≤ o.qty) → 0 ≤ wilL s p l
  | [], _ => by simp [wilL]
  | o :: T, h => by
    have := wilL_nn (s := s) (p := p) (l := T) (fun x hx => h x (List.mem_cons_of_mem _ hx))
    have := h o (List.mem_cons_self ..)
    rw [wilL_cons]
    split <;> omega
theorem wilL_front {s p : Int} : ∀ {A T : List Ord} {o : Ord}, (∀ x ∈ A ++ o :: T, 1 ≤ x.qty) → (∀ x ∈ A, (x.side == s && wilB s p x) = true) → (o.side == s && wilB s p o) = true → sumO A + o.qty ≤ wilL s p (A ++ o :: T)
  | [], T, o, hq, _, ho => by
    have := wilL_nn (s := s) (p := p) (l := T) (fun x hx => hq x (by rw [List.nil_append]; exact List.mem_cons_of_mem _ hx))
    rw [List.nil_append, wilL_cons, if_pos ho, sumO]; omega
  | a :: A, T, o, hq, hA, ho => by
    have ih := wilL_front (A := A) (T := T) (fun x hx => hq x (List.mem_cons_of_mem _ hx)) (fun x hx => hA x (List.mem_cons_of_mem _ hx)) ho
    rw [List.cons_append, wilL_cons, if_pos (hA a (List.mem_cons_self ..)), sumO]; omega
/-- who has lots left, of which there are more than q at each price at which it is willing -/
theorem left_more {L : List Ord} (h : LOk L) {s p q : Int} (hs : s = 1 ∨ s = 2) (h0 : 0 ≤ q) {y : Ord} (hy : y ∈ eatL q (sideO s L)) : ∃ o ∈ L, o.side = s ∧ o.kind = y.kind ∧ o.price = y.price ∧ (wilB s p o = true → q < wilL s p L) := by
  have key : ∀ {Z : List Ord} {n : Int}, (∀ x ∈ Z, 1 ≤ x.qty) → 0 ≤ n → y ∈ eatL n Z → ∃ A o T, Z = A ++ o :: T ∧ o.kind = y.kind ∧ o.price = y.price ∧ n < sumO A + o.qty := by
    intro Z
    induction Z with
    | nil => intro n _ _ hy; cases hy
    | cons z Z ih =>
      intro n hz hn hy
      have hz1 := hz z (List.mem_cons_self ..)
      have hzs : ∀ x ∈ Z, 1 ≤ x.qty := fun x hx => hz x (List.mem_cons_of_mem _ hx)
      have hin : y ∈ Z → n < z.qty → ∃ A o T, z :: Z = A ++ o :: T ∧ o.kind = y.kind ∧ o.price = y.price ∧ n < sumO A + o.qty := fun hyZ hlt => by
        obtain ⟨A, T, e⟩ := List.append_of_mem hyZ
        subst e
        have hA : 0 ≤ sumO A := sumO_nn (fun x hx => hzs x (List.mem_append_left _ hx))
        have hy1 := hzs y hyZ
        exact ⟨z :: A, y, T, rfl, rfl, rfl, by rw [sumO]; omega⟩
      rw [eatL] at hy
      by_cases h1 : n < z.qty
      · rw [if_pos h1] at hy
        by_cases h2 : n ≤ 0
        · rw [if_pos h2] at hy
          rcases List.mem_cons.1 hy with e | hyZ
          · subst e; exact ⟨[], y, Z, rfl, rfl, rfl, by rw [sumO]; omega⟩
          · exact hin hyZ h1
        · rw [if_neg h2] at hy
          rcases List.mem_cons.1 hy with e | hyZ
          · subst e; exact ⟨[], z, Z, rfl, rfl, rfl, by rw [sumO]; omega⟩
          · exact hin hyZ h1
      · rw [if_neg h1] at hy
        obtain ⟨A, o, T, e, k1, k2, k3⟩ := ih hzs (by omega) hy
        exact ⟨z :: A, o, T, by rw [e]; rfl, k1, k2, by rw [sumO]; omega⟩
  have hqs : ∀ x ∈ sideO s L, 1 ≤ x.qty := fun x hx => (h.ok x (sideO_mem.1 hx).1).2.2.1
  obtain ⟨A, o, T, e, k1, k2, k3⟩ := key hqs h0 hy
  have hoS : o ∈ sideO s L := by rw [e]; exact List.mem_append_right _ (List.mem_cons_self ..)
  obtain ⟨hoL, hos⟩ := sideO_mem.1 hoS
  refine ⟨o, hoL, hos, k1, k2, fun hw => ?_⟩
  have hsrt := ssort_srt (rank := rankO s) (onSide s L)
  rw [show ssort (rankO s) (onSide s L) = A ++ o :: T from e, List.pairwise_append] at hsrt
  have hf : sumO A + o.qty ≤ wilL s p (A ++ o :: T) := wilL_front (fun x hx => hqs x (by rw [e]; exact hx)) (fun x hx => by
    have hxS : x ∈ sideO s L := by rw [e]; exact List.mem_append_left _ hx
    obtain ⟨hxL, hxs⟩ := sideO_mem.1 hxS
    rw [Bool.and_eq_true]
    exact ⟨beq_iff_eq.2 hxs, rank_wil h hs hxL hoL (hsrt.2.2 x hx o (List.mem_cons_self ..)) hw⟩) (by rw [Bool.and_eq_true]; exact ⟨beq_iff_eq.2 hos, hw⟩)
  rw [← e, wilL_side] at hf
  omega
/-- nobody is left who could trade -/
theorem none_left {L : List Ord} (h : LOk L) {q : Int} (h0 : 0 ≤ q) (hb : ∀ p, 1 ≤ p → p ≤ 1000000 → min (wilL 1 p L) (wilL 2 p L) ≤ q) {x y : Ord} (hx : x ∈ eatL q (sideO 1 L)) (hy : y ∈ eatL q (sideO 2 L)) : ¬ (x.kind = 2 ∨ y.kind = 2 ∨ y.price ≤ x.price) := fun ht => by
  have most : ∀ p, 1 ≤ p → p ≤ 1000000 → (x.kind = 2 ∨ p ≤ x.price) → (y.kind = 2 ∨ y.price ≤ p) → False := fun p p1 p2 c1 c2 => by
    obtain ⟨o, _, _, k1, k2, k3⟩ := left_more (p := p) h (Or.inl rfl) h0 hx
    obtain ⟨z, _, _, j1, j2, j3⟩ := left_more (p := p) h (Or.inr rfl) h0 hy
    have a1 := k3 (by unfold wilB; rw [k1, k2]; rcases c1 with c | c <;> simp [c])
    have a2 := j3 (by unfold wilB; rw [j1, j2]; rcases c2 with c | c <;> simp [c])
    have := hb p p1 p2
    omega
  obtain ⟨o, hoL, _, _, k2, _⟩ := left_more (p := 1) h (Or.inl rfl) h0 hx
  obtain ⟨z, hzL, _, _, j2, _⟩ := left_more (p := 1) h (Or.inr rfl) h0 hy
  have po := h.ok o hoL
  have pz := h.ok z hzL
  rcases ht with c | c | c
  · exact most y.price (by omega) (by omega) (Or.inl c) (Or.inr (Int.le_refl _))
  · exact most x.price (by omega) (by omega) (Or.inr (Int.le_refl _)) (Or.inl c)
  · exact most y.price (by omega) (by omega) (Or.inr c) (Or.inr (Int.le_refl _))
end Go.Proofs.Ytcoijhofliilmab

/-
  Orders' curve, as plain lists: at which prices there are points, how much is bought and sold at each, and that a rising list is told by its elements alone. No program is named here.
-/
namespace Go.Proofs.Ytcoijhofliilmab
open Go.RowKit

def inC (lo hi z : Int) : Bool := decide (lo ≤ z) && decide (z ≤ hi)
theorem inC_iff {lo hi z : Int} : inC lo hi z = true ↔ (lo ≤ z ∧ z ≤ hi) := by unfold inC; simp
theorem inC_not {lo hi z : Int} : inC lo hi z = false ↔ (z < lo ∨ hi < z) := by
  rw [Bool.eq_false_iff, Ne, inC_iff]; omega

/-- a point of a curve -/
structure Pt where
  price : Int
  dem : Int
  sup : Int
def Pt.none_ : Pt := ⟨0, 0, 0⟩
def ptV : List Pt → List Value
  | [] => []
  | x :: l => .int .i64 x.price :: .int .i64 x.dem :: .int .i64 x.sup :: ptV l
def ptAt (l : List Pt) (k : Nat) : Pt := l.getD k Pt.none_
theorem ptV_length (l : List Pt) : (ptV l).length = l.length * 3 := by
  induction l with
  | nil => rfl
  | cons o l ih => simp [ptV, ih]; omega
theorem ptV_append (a b : List Pt) : ptV (a ++ b) = ptV a ++ ptV b := by
  induction a with
  | nil => rfl
  | cons o a ih => simp [ptV, ih]
theorem ptV_snoc (a : List Pt) (x : Pt) : ptV (a ++ [x]) = ptV a ++ [.int .i64 x.price, .int .i64 x.dem, .int .i64 x.sup] := by rw [ptV_append]; rfl
theorem ptV_at {l : List Pt} {k : Nat} (h : k < l.length) : (ptV l)[k * 3]? = some (.int .i64 (ptAt l k).price) ∧ (ptV l)[k * 3 + 1]? = some (.int .i64 (ptAt l k).dem) ∧ (ptV l)[k * 3 + 2]? = some (.int .i64 (ptAt l k).sup) := by
  induction l generalizing k with
  | nil => simp at h
  | cons o l ih =>
    cases k with
    | zero => exact ⟨rfl, rfl, rfl⟩
    | succ k =>
      have := ih (k := k) (by simpa using h)
      rw [show (k + 1) * 3 = k * 3 + 1 + 1 + 1 by omega]
      have e : ptAt (o :: l) (k + 1) = ptAt l k := by simp [ptAt]
      rw [e]
      simpa [ptV] using this
theorem ptAt_eq {l : List Pt} {k : Nat} (h : k < l.length) : ptAt l k = l[k] := by simp [ptAt, h]
theorem ptAt_mem {l : List Pt} {k : Nat} (h : k < l.length) : ptAt l k ∈ l := by rw [ptAt_eq h]; exact List.getElem_mem h
theorem row_pt {w : World} {base : Nat} {t : TypeId} {v : Value} {l : List Pt} (h : w.ownsRow base t 3 v l.length (ptV l)) {k : Nat} (hk : k < l.length) :
    ∃ g cap, v = .slice (some ⟨g, 0, none⟩) l.length cap ∧ w.cell? ⟨g, k * 3, none⟩ = some (.int .i64 (ptAt l k).price) ∧ w.cell? ⟨g, k * 3 + 1, none⟩ = some (.int .i64 (ptAt l k).dem) ∧ w.cell? ⟨g, k * 3 + 2, none⟩ = some (.int .i64 (ptAt l k).sup) := by
  obtain ⟨g, cap, rfl, _, _⟩ := h.form (by omega)
  obtain ⟨h1, h2, h3⟩ := ptV_at hk
  exact ⟨g, cap, rfl, (h.cellAt _ (by omega)).trans h1, (h.cellAt _ (by omega)).trans h2, (h.cellAt _ (by omega)).trans h3⟩

/-- 6.1: is an order something? -/
def okO (o : Ord) : Bool := inC 1 2 o.side && inC 1 1000000 o.qty
/-- has it a price of its own? -/
def namesO (o : Ord) : Bool := okO o && !(o.kind == 2)
/-- the prices that there are, as they come -/
def pricesO (l : List Ord) (more : Int) : List Int := (if 0 < more then [more] else []) ++ (l.filter namesO).map Ord.price
def buysB (p : Int) (o : Ord) : Bool := okO o && ((o.side == 1) && ((o.kind == 2) || decide (p ≤ o.price)))
def sellsB (p : Int) (o : Ord) : Bool := okO o && ((o.side == 2) && ((o.kind == 2) || decide (o.price ≤ p)))
/-- how much is bought at a price, and sold -/
def demO (p : Int) (l : List Ord) : Int := (l.map fun o => if buysB p o = true then o.qty else 0).sum
def supO (p : Int) (l : List Ord) : Int := (l.map fun o => if sellsB p o = true then o.qty else 0).sum

theorem sum_snoc (a : List Int) (x : Int) : (a ++ [x]).sum = a.sum + x := by simp
theorem demO_take {l : List Ord} {k : Nat} (p : Int) (h : k < l.length) : demO p (l.take (k + 1)) = demO p (l.take k) + (if buysB p (oAt l k) = true then (oAt l k).qty else 0) := by
  unfold demO
  rw [List.take_succ_eq_append_getElem h, List.map_append, List.map_singleton, sum_snoc, oAt_eq h]
theorem supO_take {l : List Ord} {k : Nat} (p : Int) (h : k < l.length) : supO p (l.take (k + 1)) = supO p (l.take k) + (if sellsB p (oAt l k) = true then (oAt l k).qty else 0) := by
  unfold supO
  rw [List.take_succ_eq_append_getElem h, List.map_append, List.map_singleton, sum_snoc, oAt_eq h]
theorem okO_qty {o : Ord} (h : okO o = true) : (1 ≤ o.side ∧ o.side ≤ 2) ∧ 1 ≤ o.qty ∧ o.qty ≤ 1000000 := by
  unfold okO at h
  rw [Bool.and_eq_true] at h
  exact ⟨inC_iff.1 h.1, inC_iff.1 h.2⟩
theorem buysB_ok {p : Int} {o : Ord} (h : buysB p o = true) : okO o = true := by unfold buysB at h; rw [Bool.and_eq_true] at h; exact h.1
theorem sellsB_ok {p : Int} {o : Ord} (h : sellsB p o = true) : okO o = true := by unfold sellsB at h; rw [Bool.and_eq_true] at h; exact h.1
theorem demO_in (p : Int) : ∀ l : List Ord, 0 ≤ demO p l ∧ demO p l ≤ 1000000 * (l.length : Int)
  | [] => by simp [demO]
  | o :: l => by
    have ih := demO_in p l
    have e : demO p (o :: l) = (if buysB p o = true then o.qty else 0) + demO p l := by simp [demO]
    rw [e, List.length_cons]
    split
    · rename_i hx
      have := (okO_qty (buysB_ok hx)).2
      omega
    · omega
theorem supO_in (p : Int) : ∀ l : List Ord, 0 ≤ supO p l ∧ supO p l ≤ 1000000 * (l.length : Int)
  | [] => by simp [supO]
  | o :: l => by
    have ih := supO_in p l
    have e : supO p (o :: l) = (if sellsB p o = true then o.qty else 0) + supO p l := by simp [supO]
    rw [e, List.length_cons]
    split
    · rename_i hx
      have := (okO_qty (sellsB_ok hx)).2
      omega
    · omega

/-- prices in the order in which sort.Ints lays them -/
def sortI (xs : List Int) : List Int := xs.mergeSort fun x y => decide (x ≤ y)
theorem sortI_length (xs : List Int) : (sortI xs).length = xs.length := List.length_mergeSort _
theorem sortI_mem {xs : List Int} {p : Int} : p ∈ sortI xs ↔ p ∈ xs := List.mem_mergeSort
theorem sortI_sorted (xs : List Int) : (sortI xs).Pairwise (· ≤ ·) := by
  have h := List.pairwise_mergeSort (le := fun x y : Int => decide (x ≤ y)) (fun a b c h1 h2 => by simp at *; omega) (fun a b => by simp; omega) xs
  exact h.imp (fun h => by simpa using h)
/-- is it the first of its kind? -/
def fstB (xs : List Int) (i : Nat) : Bool := (i == 0) || !(xs.getD (i - 1) 0 == xs.getD i 0)
/-- each of the first k once, where they rise -/
def uniqK (xs : List Int) (k : Nat) : List Int := ((List.range k).filter (fstB xs)).map fun i => xs.getD i 0
def uniqL (xs : List Int) : List Int := uniqK xs xs.length
theorem uniqK_step (xs : List Int) (k : Nat) : uniqK xs (k + 1) = if fstB xs k = true then uniqK xs k ++ [xs.getD k 0] else uniqK xs k := by
  unfold uniqK
  rw [List.range_succ, List.filter_append, List.map_append]
  by_cases h : fstB xs k = true
  · rw [if_pos h]; simp [h]
  · rw [if_neg h]; simp [h]
theorem uniqK_len (xs : List Int) : ∀ k, (uniqK xs k).length ≤ k
  | 0 => by simp [uniqK]
  | k + 1 => by
    rw [uniqK_step]
    have := uniqK_len xs k
    split
    · simp; omega
    · omega
/-- the points of orders -/
def curveL (l : List Ord) (more : Int) : List Pt := (uniqL (sortI (pricesO l more))).map fun p => ⟨p, demO p l, supO p l⟩

theorem getD_mono {xs : List Int} (h : xs.Pairwise (· ≤ ·)) {i j : Nat} (hij : i ≤ j) (hj : j < xs.length) : xs.getD i 0 ≤ xs.getD j 0 := by
  rw [List.getD_eq_getElem?_getD, List.getD_eq_getElem?_getD, List.getElem?_eq_getElem (by omega), List.getElem?_eq_getElem hj, Option.getD_some, Option.getD_some]
  rcases Nat.lt_or_eq_of_le hij with h1 | rfl
  · exact List.pairwise_iff_getElem.1 h i j (by omega) hj h1
  · exact Int.le_refl _
theorem uniqK_spec {xs : List Int} (h : xs.Pairwise (· ≤ ·)) : ∀ k, k ≤ xs.length → (uniqK xs k).Pairwise (· < ·) ∧ ∀ p, p ∈ uniqK xs k ↔ ∃ i, i < k ∧ xs.getD i 0 = p
  | 0, _ => ⟨by simp [uniqK], fun p => by simp [uniqK]⟩
  | k + 1, hk => by
    obtain ⟨h1, h2⟩ := uniqK_spec h k (by omega)
    rw [uniqK_step]
    by_cases hf : fstB xs k = true
    · rw [if_pos hf]
      refine ⟨?_, fun p => ?_⟩
      · rw [List.pairwise_append]
        refine ⟨h1, by simp, fun a ha b hb => ?_⟩
        rw [List.mem_singleton] at hb
        subst hb
        obtain ⟨i, hi, rfl⟩ := (h2 a).1 ha
        have hk0 : k ≠ 0 := by omega
        have hne : xs.getD (k - 1) 0 ≠ xs.getD k 0 := by
          unfold fstB at hf
          simpa [hk0] using hf
        have a1 := getD_mono h (i := i) (j := k - 1) (by omega) (by omega)
        have a2 := getD_mono h (i := k - 1) (j := k) (by omega) (by omega)
        omega
      · rw [List.mem_append, List.mem_singleton, h2]
        constructor
        · rintro (⟨i, hi, e⟩ | e)
          · exact ⟨i, by omega, e⟩
          · exact ⟨k, by omega, e.symm⟩
        · rintro ⟨i, hi, e⟩
          by_cases hik : i = k
          · subst hik; exact Or.inr e.symm
          · exact Or.inl ⟨i, by omega, e⟩
    · rw [if_neg hf]
      refine ⟨h1, fun p => ?_⟩
      rw [h2]
      constructor
      · rintro ⟨i, hi, e⟩; exact ⟨i, by omega, e⟩
      · rintro ⟨i, hi, e⟩
        by_cases hik : i = k
        · subst hik
          have hf' : fstB xs i = false := by simpa using hf
          unfold fstB at hf'
          rw [Bool.or_eq_false_iff] at hf'
          have hi0 : i ≠ 0 := by simpa using hf'.1
          have he : xs.getD (i - 1) 0 = xs.getD i 0 := by simpa using hf'.2
          exact ⟨i - 1, by omega, he.trans e⟩
        · exact ⟨i, by omega, e⟩
theorem uniqL_rises {xs : List Int} (h : xs.Pairwise (· ≤ ·)) : (uniqL xs).Pairwise (· < ·) := (uniqK_spec h _ (Nat.le_refl _)).1
theorem uniqL_mem {xs : List Int} (h : xs.Pairwise (· ≤ ·)) {p : Int} : p ∈ uniqL xs ↔ p ∈ xs := by
  rw [uniqL, (uniqK_spec h _ (Nat.le_refl _)).2, List.mem_iff_getElem]
  constructor
  · rintro ⟨i, hi, e⟩; exact ⟨i, hi, by simpa [List.getD_eq_getElem?_getD, hi] using e⟩
  · rintro ⟨i, hi, e⟩; exact ⟨i, hi, by simpa [List.getD_eq_getElem?_getD, hi] using e⟩
/-- a rising list is told by its elements -/
theorem rises_eq : ∀ {a b : List Int}, a.Pairwise (· < ·) → b.Pairwise (· < ·) → (∀ p, p ∈ a ↔ p ∈ b) → a = b
  | [], [], _, _, _ => rfl
  | [], y :: b, _, _, h => absurd ((h y).2 (List.mem_cons_self ..)) (by simp)
  | x :: a, [], _, _, h => absurd ((h x).1 (List.mem_cons_self ..)) (by simp)
  | x :: a, y :: b, ha, hb, h => by
    rw [List.pairwise_cons] at ha hb
    have hxy : x = y := by
      have h1 := (h x).1 (List.mem_cons_self ..)
      have h2 := (h y).2 (List.mem_cons_self ..)
      rw [List.mem_cons] at h1 h2
      rcases h1 with h1 | h1
      · exact h1
      · rcases h2 with h2 | h2
        · exact h2.symm
        · have := ha.1 y h2; have := hb.1 x h1; omega
    subst hxy
    rw [rises_eq ha.2 hb.2 (fun p => ?_)]
    constructor
    · intro hp
      have := (h p).1 (List.mem_cons_of_mem _ hp)
      rw [List.mem_cons] at this
      rcases this with rfl | h1
      · exact absurd (ha.1 p hp) (by omega)
      · exact h1
    · intro hp
      have := (h p).2 (List.mem_cons_of_mem _ hp)
      rw [List.mem_cons] at this
      rcases this with rfl | h1
      · exact absurd (hb.1 p hp) (by omega)
      · exact h1
/-- whoever finds a rising list of just those prices has the curve's -/
theorem curve_prices {l : List Ord} {more : Int} {xs : List Int} (h : xs.Pairwise (· < ·)) (hm : ∀ p, p ∈ xs ↔ p ∈ pricesO l more) : uniqL (sortI (pricesO l more)) = xs :=
  rises_eq (uniqL_rises (sortI_sorted _)) h (fun p => by rw [uniqL_mem (sortI_sorted _), sortI_mem, hm])
theorem pricesO_mem {l : List Ord} {more p : Int} : p ∈ pricesO l more ↔ ((0 < more ∧ p = more) ∨ ∃ o ∈ l, namesO o = true ∧ o.price = p) := by
  unfold pricesO
  rw [List.mem_append, List.mem_map]
  constructor
  · rintro (h | ⟨o, ho, e⟩)
    · split at h
      · rw [List.mem_singleton] at h; exact Or.inl ⟨by assumption, h⟩
      · simp at h
    · rw [List.mem_filter] at ho; exact Or.inr ⟨o, ho.1, ho.2, e⟩
  · rintro (⟨h, rfl⟩ | ⟨o, ho, h1, e⟩)
    · exact Or.inl (by rw [if_pos h]; simp)
    · exact Or.inr ⟨o, List.mem_filter.2 ⟨ho, h1⟩, e⟩
theorem pricesO_len (l : List Ord) (more : Int) : (pricesO l more).length ≤ l.length + 1 := by
  unfold pricesO
  rw [List.length_append, List.length_map]
  have := List.length_filter_le namesO l
  split <;> simp <;> omega
/-- the first k orders' prices -/
def pricesK (l : List Ord) (more : Int) (k : Nat) : List Int := pricesO (l.take k) more
theorem pricesK_step {l : List Ord} {k : Nat} (more : Int) (h : k < l.length) : pricesK l more (k + 1) = if namesO (oAt l k) = true then pricesK l more k ++ [(oAt l k).price] else pricesK l more k := by
  unfold pricesK pricesO
  rw [List.take_succ_eq_append_getElem h, List.filter_append, List.map_append, oAt_eq h, ← List.append_assoc]
  by_cases hn : namesO l[k] = true
  · rw [if_pos hn]; simp [hn]
  · rw [if_neg hn]; simp [hn]
end Go.Proofs.Ytcoijhofliilmab

/-
  Which point of a curve an auction chooses, as plain lists: step by step as the document's Choose goes, and that there is always one to be chosen where something is traded. No program is named here.
-/
namespace Go.Proofs.Ytcoijhofliilmab
open Go.RowKit

/-- how much is traded at a point, and how much is left -/
def trB (x : Pt) : Int := min x.dem x.sup
def absI (n : Int) : Int := if n < 0 then -n else n
def lfB (x : Pt) : Int := absI (x.dem - x.sup)
def mostL (l : List Pt) : Int := l.foldl (fun m x => max m (trB x)) 0
def leastStep (m : Int) (s : Int × Bool) (x : Pt) : Int × Bool := if trB x = m ∧ (s.2 = false ∨ lfB x < s.1) then (lfB x, true) else s
def leastL (m : Int) (l : List Pt) : Int × Bool := l.foldl (leastStep m) (0, false)
def bestB (m n : Int) (x : Pt) : Bool := (trB x == m) && (lfB x == n)
def bestL (m n : Int) (l : List Pt) : List Pt := l.filter (bestB m n)
def buysA (l : List Pt) : Bool := l.all fun x => decide (x.sup < x.dem)
def sellsA (l : List Pt) : Bool := l.all fun x => decide (x.dem < x.sup)
def betterB (b s : Bool) (around : Int) (p x : Pt) : Bool :=
  if b = true then decide (x.price < p.price) else if s = true then decide (p.price < x.price)
  else decide (absI (p.price - around) < absI (x.price - around)) || ((absI (p.price - around) == absI (x.price - around)) && decide (p.price < x.price))
def takeB (b s : Bool) (around : Int) (x p : Pt) : Pt := if betterB b s around p x = true then p else x
def pickL (b s : Bool) (around : Int) (l : List Pt) : Pt := l.foldl (takeB b s around) (ptAt l 0)
def pickK (b s : Bool) (around : Int) (l : List Pt) (k : Nat) : Pt := (l.take k).foldl (takeB b s around) (ptAt l 0)
/-- the point that is chosen -/
def chosenP (l : List Pt) (around : Int) : Pt :=
  let best := bestL (mostL l) (leastL (mostL l) l).1 l
  pickL (buysA best) (sellsA best) around best
/-- 6.2: its price, what is traded, and what is left over -/
structure Quo where
  price : Int
  qty : Int
  sur : Int
def quoP (x : Pt) : Quo := ⟨x.price, trB x, x.dem - x.sup⟩
def chooseL (l : List Pt) (around : Int) : Quo := if mostL l < 1 then ⟨0, 0, 0⟩ else quoP (chosenP l around)

theorem foldl_take {α : Type} (f : α → Pt → α) (a : α) {l : List Pt} {k : Nat} (h : k < l.length) : (l.take (k + 1)).foldl f a = f ((l.take k).foldl f a) (ptAt l k) := by
  rw [List.take_succ_eq_append_getElem h, List.foldl_append, ptAt_eq h]; rfl
theorem mostL_take {l : List Pt} {k : Nat} (h : k < l.length) : mostL (l.take (k + 1)) = max (mostL (l.take k)) (trB (ptAt l k)) := foldl_take _ _ h
theorem leastL_take {l : List Pt} {k : Nat} (m : Int) (h : k < l.length) : leastL m (l.take (k + 1)) = leastStep m (leastL m (l.take k)) (ptAt l k) := foldl_take _ _ h
theorem bestL_take {l : List Pt} {k : Nat} (m n : Int) (h : k < l.length) : bestL m n (l.take (k + 1)) = if bestB m n (ptAt l k) = true then bestL m n (l.take k) ++ [ptAt l k] else bestL m n (l.take k) := by
  unfold bestL
  rw [List.take_succ_eq_append_getElem h, List.filter_append, ptAt_eq h]
  by_cases hb : bestB m n l[k] = true
  · rw [if_pos hb]; simp [hb]
  · rw [if_neg hb]; simp [hb]
theorem pickK_step {b s : Bool} {around : Int} {l : List Pt} {k : Nat} (h : k < l.length) : pickK b s around l (k + 1) = takeB b s around (pickK b s around l k) (ptAt l k) := foldl_take _ _ h
theorem pickK_all (b s : Bool) (around : Int) (l : List Pt) : pickK b s around l l.length = pickL b s around l := by unfold pickK pickL; rw [List.take_length]
theorem buysA_snoc (l : List Pt) (x : Pt) : buysA (l ++ [x]) = (buysA l && decide (x.sup < x.dem)) := by simp [buysA, List.all_append]
theorem sellsA_snoc (l : List Pt) (x : Pt) : sellsA (l ++ [x]) = (sellsA l && decide (x.dem < x.sup)) := by simp [sellsA, List.all_append]

/-- numbers that can be reckoned with -/
structure Pt.Small (x : Pt) : Prop where
  p : -1099511627776 ≤ x.price ∧ x.price ≤ 1099511627776
  d : -1099511627776 ≤ x.dem ∧ x.dem ≤ 1099511627776
  s : -1099511627776 ≤ x.sup ∧ x.sup ≤ 1099511627776
theorem absI_in (n : Int) : 0 ≤ absI n ∧ n ≤ absI n ∧ -n ≤ absI n ∧ (absI n = n ∨ absI n = -n) := by
  unfold absI; split <;> omega
theorem trB_in {x : Pt} (h : x.Small) : -1099511627776 ≤ trB x ∧ trB x ≤ 1099511627776 := by
  have := h.d; have := h.s; unfold trB; omega
theorem mostL_zero (l : List Pt) : 0 ≤ mostL l := by
  have : ∀ (l : List Pt) (a : Int), 0 ≤ a → 0 ≤ l.foldl (fun m x => max m (trB x)) a := by
    intro l
    induction l with
    | nil => intro a h; exact h
    | cons x l ih => intro a h; exact ih (max a (trB x)) (by omega)
  exact this l 0 (Int.le_refl _)
theorem mostL_max {l : List Pt} {x : Pt} (h : x ∈ l) : trB x ≤ mostL l := by
  have mono : ∀ (l : List Pt) (a : Int), a ≤ l.foldl (fun m x => max m (trB x)) a := by
    intro l
    induction l with
    | nil => intro a; exact Int.le_refl _
    | cons y l ih => intro a; exact Int.le_trans (by omega) (ih (max a (trB y)))
  have key : ∀ (l : List Pt) (a : Int), x ∈ l → trB x ≤ l.foldl (fun m x => max m (trB x)) a := by
    intro l
    induction l with
    | nil => intro a h; cases h
    | cons y l ih =>
      intro a h
      rw [List.mem_cons] at h
      rcases h with rfl | h
      · exact Int.le_trans (by omega) (mono l (max a (trB x)))
      · exact ih _ h
  exact key l 0 h
theorem mostL_is (l : List Pt) : mostL l = 0 ∨ ∃ x ∈ l, trB x = mostL l := by
  have key : ∀ (l : List Pt) (a : Int), l.foldl (fun m x => max m (trB x)) a = a ∨ ∃ x ∈ l, trB x = l.foldl (fun m x => max m (trB x)) a := by
    intro l
    induction l with
    | nil => intro a; exact Or.inl rfl
    | cons y l ih =>
      intro a
      rw [List.foldl_cons]
      rcases ih (max a (trB y)) with h | ⟨x, hx, h⟩
      · rw [h]
        by_cases hm : trB y ≤ a
        · exact Or.inl (by omega)
        · exact Or.inr ⟨y, List.mem_cons_self .., by omega⟩
      · exact Or.inr ⟨x, List.mem_cons_of_mem _ hx, h⟩
  exact key l 0
theorem mostL_in {l : List Pt} (h : ∀ x ∈ l, x.Small) : 0 ≤ mostL l ∧ mostL l ≤ 1099511627776 := by
  refine ⟨mostL_zero l, ?_⟩
  rcases mostL_is l with h1 | ⟨x, hx, h1⟩
  · omega
  · rw [← h1]; exact (trB_in (h x hx)).2
/-- what has been found as the least is some point's, and no point has less -/
theorem leastL_spec (m : Int) : ∀ l : List Pt, ((leastL m l).2 = false ∧ ∀ x ∈ l, trB x ≠ m) ∨ ((leastL m l).2 = true ∧ (∃ x ∈ l, trB x = m ∧ lfB x = (leastL m l).1) ∧ ∀ x ∈ l, trB x = m → (leastL m l).1 ≤ lfB x) := by
  have key : ∀ (l pre : List Pt) (s : Int × Bool), ((s.2 = false ∧ ∀ x ∈ pre, trB x ≠ m) ∨ (s.2 = true ∧ (∃ x ∈ pre, trB x = m ∧ lfB x = s.1) ∧ ∀ x ∈ pre, trB x = m → s.1 ≤ lfB x)) →
      (((l.foldl (leastStep m) s).2 = false ∧ ∀ x ∈ pre ++ l, trB x ≠ m) ∨ ((l.foldl (leastStep m) s).2 = true ∧ (∃ x ∈ pre ++ l, trB x = m ∧ lfB x = (l.foldl (leastStep m) s).1) ∧ ∀ x ∈ pre ++ l, trB x = m → (l.foldl (leastStep m) s).1 ≤ lfB x)) := by
    intro l
    induction l with
    | nil => intro pre s h; simpa using h
    | cons y l ih =>
      intro pre s h
      rw [List.foldl_cons, show pre ++ y :: l = (pre ++ [y]) ++ l by simp]
      refine ih (pre ++ [y]) _ ?_
      unfold leastStep
      by_cases hy : trB y = m ∧ (s.2 = false ∨ lfB y < s.1)
      · rw [if_pos hy]
        right
        refine ⟨rfl, ⟨y, by simp, hy.1, rfl⟩, fun x hx hm => ?_⟩
        rw [List.mem_append, List.mem_singleton] at hx
        rcases hx with hx | rfl
        · rcases h with ⟨_, h2⟩ | ⟨h1, _, h3⟩
          · exact absurd hm (h2 x hx)
          · have := h3 x hx hm
            rcases hy.2 with h4 | h4
            · rw [h1] at h4; cases h4
            · show lfB y ≤ lfB x; omega
        · exact Int.le_refl _
      · rw [if_neg hy]
        rcases h with ⟨h1, h2⟩ | ⟨h1, ⟨z, hz, hz1, hz2⟩, h3⟩
        · left
          refine ⟨h1, fun x hx hm => ?_⟩
          rw [List.mem_append, List.mem_singleton] at hx
          rcases hx with hx | rfl
          · exact h2 x hx hm
          · exact hy ⟨hm, Or.inl h1⟩
        · right
          refine ⟨h1, ⟨z, by simp [hz], hz1, hz2⟩, fun x hx hm => ?_⟩
          rw [List.mem_append, List.mem_singleton] at hx
          rcases hx with hx | rfl
          · exact h3 x hx hm
          · have : ¬ lfB x < s.1 := fun e => hy ⟨hm, Or.inr e⟩
            omega
  intro l
  have := key l [] (0, false) (Or.inl ⟨rfl, fun x hx => by cases hx⟩)
  simpa [leastL] using this
theorem best_some {l : List Pt} (h : 1 ≤ mostL l) : 0 < (bestL (mostL l) (leastL (mostL l) l).1 l).length := by
  rcases mostL_is l with h1 | ⟨x, hx, h1⟩
  · omega
  · rcases leastL_spec (mostL l) l with ⟨_, h2⟩ | ⟨_, ⟨z, hz, hz1, hz2⟩, _⟩
    · exact absurd h1 (h2 x hx)
    · exact List.length_pos_of_mem (a := z) (List.mem_filter.2 ⟨hz, by unfold bestB; simp [hz1, hz2]⟩)
theorem pickK_mem (b s : Bool) (around : Int) {l : List Pt} (h : 0 < l.length) : ∀ k, k ≤ l.length → pickK b s around l k ∈ l
  | 0, _ => by unfold pickK; simpa using ptAt_mem h
  | k + 1, hk => by
    rw [pickK_step (by omega)]
    unfold takeB
    split
    · exact ptAt_mem (by omega)
    · exact pickK_mem b s around h k (by omega)
theorem chosen_mem {l : List Pt} (around : Int) (h : 1 ≤ mostL l) : chosenP l around ∈ l ∧ trB (chosenP l around) = mostL l := by
  have h0 := best_some h
  have h1 := pickK_mem (buysA (bestL (mostL l) (leastL (mostL l) l).1 l)) (sellsA (bestL (mostL l) (leastL (mostL l) l).1 l)) around h0 _ (Nat.le_refl _)
  rw [pickK_all] at h1
  have h2 : chosenP l around ∈ bestL (mostL l) (leastL (mostL l) l).1 l := h1
  have h3 := List.mem_filter.1 h2
  refine ⟨h3.1, ?_⟩
  have h4 := h3.2
  unfold bestB at h4
  rw [Bool.and_eq_true] at h4
  simpa using h4.1
end Go.Proofs.Ytcoijhofliilmab
