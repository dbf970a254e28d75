/-
  Who trades with whom at an auction's price, as plain lists (8.1): lots of the willing, the best of both sides, and what stays true from trade to trade. No program is named here.
-/
import Derived.Test.YtjdkagafdnchhaaGreatDoorLF
import Derived.Test.YtjdkagafdnchhaaGreatDoorLA
import Derived.Test.YtjdkagafdnchhaaGreatDoorRows
import Derived.WalkKit
import Derived.WalkSpells
import Derived.WalkLawsBesides
import Derived.Handy
import Derived.Test.YtjdkagafdnchhaaGreatDoorLC
import Derived.BigQuiet
import Derived.OwnWalk
import Derived.OneCell
import Derived.Deep.QuietTactic
import Derived.Lib.QuietBelow
namespace Go.Proofs.YtjdkagafdnchhaaGreatDoor
open Go.RowKit

/-- a trade -/
structure Fil where
  buyer : Int
  seller : Int
  price : Int
  qty : Int
def fV : List Fil → List Value
  | [] => []
  | x :: l => .int .i64 x.buyer :: .int .i64 x.seller :: .int .i64 x.price :: .int .i64 x.qty :: fV l
def Fil.none_ : Fil := ⟨0, 0, 0, 0⟩
def fAt (l : List Fil) (k : Nat) : Fil := l.getD k Fil.none_
theorem fV_length (l : List Fil) : (fV l).length = l.length * 4 := by
  induction l with
  | nil => rfl
  | cons o l ih => simp [fV, ih]; omega
theorem fV_append (a b : List Fil) : fV (a ++ b) = fV a ++ fV b := by
  induction a with
  | nil => rfl
  | cons o a ih => simp [fV, ih]
theorem fV_snoc (a : List Fil) (x : Fil) : fV (a ++ [x]) = fV a ++ [.int .i64 x.buyer, .int .i64 x.seller, .int .i64 x.price, .int .i64 x.qty] := by rw [fV_append]; rfl
theorem fV_at {l : List Fil} {k : Nat} (h : k < l.length) : (fV l)[k * 4]? = some (.int .i64 (fAt l k).buyer) ∧ (fV l)[k * 4 + 1]? = some (.int .i64 (fAt l k).seller) ∧ (fV l)[k * 4 + 2]? = some (.int .i64 (fAt l k).price) ∧ (fV l)[k * 4 + 3]? = some (.int .i64 (fAt l k).qty) := by
  induction l generalizing k with
  | nil => simp at h
  | cons o l ih =>
    cases k with
    | zero => exact ⟨rfl, rfl, rfl, rfl⟩
    | succ k =>
      have := ih (k := k) (by simpa using h)
      rw [show (k + 1) * 4 = k * 4 + 1 + 1 + 1 + 1 by omega]
      have e : fAt (o :: l) (k + 1) = fAt l k := by simp [fAt]
      rw [e]
      simpa [fV] using this

/-- orders that lie: each of a side, of its own number, with a price and lots that may be -/
structure LOk (L : List Ord) : Prop where
  side : ∀ o ∈ L, o.side = 1 ∨ o.side = 2
  ids : (L.map Ord.id).Nodup
  ok : ∀ o ∈ L, 1 ≤ o.price ∧ o.price ≤ 1000000 ∧ 1 ≤ o.qty ∧ o.qty ≤ 1000000
/-- n lots of one order less; with none left it goes -/
def lessF (id n : Int) (L : List Ord) : List Ord := (L.map (cutF id n)).filter fun o => decide (0 < o.qty)
theorem cutF_qty {id n : Int} {o : Ord} (h : o.id ≠ id) : cutF id n o = o := if_neg h
theorem cutF_hit (n : Int) (o : Ord) : cutF o.id n o = cutO n o := if_pos rfl
theorem lessF_out (id n : Int) : ∀ L : List Ord, (∀ o ∈ L, o.id = id → o.qty = n) → (∀ o ∈ L, 1 ≤ o.qty) → lessF id n L = L.filter (fun o => decide (o.id ≠ id))
  | [], _, _ => rfl
  | o :: L, h1, h2 => by
    have ih := lessF_out id n L (fun x hx => h1 x (List.mem_cons_of_mem _ hx)) (fun x hx => h2 x (List.mem_cons_of_mem _ hx))
    unfold lessF at ih ⊢
    have hq := h2 o (List.mem_cons_self ..)
    by_cases e : o.id = id
    · have hn := h1 o (List.mem_cons_self ..) e
      have hc : (cutF id n o).qty = 0 := by unfold cutF; rw [if_pos e]; show o.qty - n = 0; omega
      rw [List.map_cons, List.filter_cons_of_neg (by rw [hc]; decide), ih, List.filter_cons_of_neg (by simp [e])]
    · rw [List.map_cons, cutF_qty e, List.filter_cons_of_pos (by simpa using (show 0 < o.qty by omega)), ih, List.filter_cons_of_pos (by simpa using e)]
theorem lessF_stay (id n : Int) : ∀ L : List Ord, (∀ o ∈ L, o.id = id → n < o.qty) → (∀ o ∈ L, 1 ≤ o.qty) → lessF id n L = L.map (cutF id n)
  | [], _, _ => rfl
  | o :: L, h1, h2 => by
    have ih := lessF_stay id n L (fun x hx => h1 x (List.mem_cons_of_mem _ hx)) (fun x hx => h2 x (List.mem_cons_of_mem _ hx))
    unfold lessF at ih ⊢
    have hq := h2 o (List.mem_cons_self ..)
    have hp : 0 < (cutF id n o).qty := by
      by_cases e : o.id = id
      · have hn := h1 o (List.mem_cons_self ..) e
        unfold cutF; rw [if_pos e]; show 0 < o.qty - n; omega
      · rw [cutF_qty e]; omega
    rw [List.map_cons, List.filter_cons_of_pos (by simpa using hp), ih]
theorem idx_of {L : List Ord} (h : LOk L) {o : Ord} (ho : o ∈ L) : ∃ k : Nat, k < L.length ∧ idxO o.id L = k ∧ oAt L k = o := by
  rcases idxF_in o.id L 0 with h1 | ⟨k, hk, h1, h2⟩
  · have := idxF_some o.id L 0 ⟨o, ho, rfl⟩
    omega
  · exact ⟨k, hk, by show idxF o.id 0 L = k; rw [h1]; congr 1; omega, id_inj h.ids (oAt_in hk) ho h2⟩
theorem cut_is {L : List Ord} (h : LOk L) {o : Ord} (ho : o ∈ L) {n : Int} (hn : 1 ≤ n ∧ n ≤ o.qty) : cutM o.id n L = lessF o.id n L ∧ cutN o.id n L = 0 := by
  obtain ⟨k, hk, h1, h2⟩ := idx_of h ho
  have hne : ¬ idxO o.id L = -1 := by omega
  have hkk : (idxO o.id L).toNat = k := by omega
  have hd : ¬ (decide (1 ≤ n) && decide (n ≤ o.qty)) = false := by simp [hn.1, hn.2]
  have hone : ∀ x ∈ L, x.id = o.id → x = o := fun x hx e => id_inj h.ids hx ho e
  unfold cutM cutN
  rw [if_neg hne, if_neg hne, hkk, h2, if_neg hd, if_neg hd]
  refine ⟨?_, rfl⟩
  by_cases e : o.qty = n
  · rw [if_pos e, goneL_filter h.ids hk, h2, lessF_out o.id n L (fun x hx e' => by rw [hone x hx e']; exact e) (fun x hx => (h.ok x hx).2.2.1)]
  · rw [if_neg e]
    have := set_map n h.ids hk
    rw [h2] at this
    rw [this, lessF_stay o.id n L (fun x hx e' => by rw [hone x hx e']; omega) (fun x hx => (h.ok x hx).2.2.1)]
theorem less_mem {id n : Int} {L : List Ord} {x : Ord} (h : x ∈ lessF id n L) : ∃ y ∈ L, x = cutF id n y ∧ 0 < x.qty := by
  unfold lessF at h
  rw [List.mem_filter, List.mem_map] at h
  obtain ⟨⟨y, hy, rfl⟩, h2⟩ := h
  exact ⟨y, hy, rfl, by simpa using h2⟩
theorem cutF_le {id n : Int} {o : Ord} (hn : 0 ≤ n) : (cutF id n o).qty ≤ o.qty := by
  unfold cutF; split
  · show o.qty - n ≤ o.qty; omega
  · exact Int.le_refl _
theorem LOk.less {L : List Ord} (h : LOk L) (id : Int) {n : Int} (hn : 0 ≤ n) : LOk (lessF id n L) := by
  refine ⟨fun x hx => ?_, ?_, fun x hx => ?_⟩
  · obtain ⟨y, hy, rfl, _⟩ := less_mem hx
    rw [cutF_side]; exact h.side y hy
  · unfold lessF
    refine (List.Nodup.sublist ?_ h.ids)
    have e : (L.map (cutF id n)).map Ord.id = L.map Ord.id := by
      rw [List.map_map]
      exact List.map_congr_left (fun o _ => cutF_id id n o)
    rw [← e]
    exact (List.filter_sublist).map _
  · obtain ⟨y, hy, rfl, h2⟩ := less_mem hx
    have h3 := h.ok y hy
    have h4 := cutF_le (id := id) (o := y) hn
    rw [cutF_price]; omega
theorem side_less (s id n : Int) (L : List Ord) : sideO s (lessF id n L) = ((sideO s L).map (cutF id n)).filter fun o => decide (0 < o.qty) := by
  unfold lessF
  rw [sideO_filter, sideO_map s (cutF_side id n) (cutF_kind id n) (cutF_price id n)]
/-- who is not there loses nothing -/
theorem less_none {id n : Int} : ∀ {l : List Ord}, (∀ o ∈ l, o.id ≠ id) → (∀ o ∈ l, 1 ≤ o.qty) → (l.map (cutF id n)).filter (fun o => decide (0 < o.qty)) = l
  | [], _, _ => rfl
  | o :: l, h1, h2 => by
    have hq := h2 o (List.mem_cons_self ..)
    rw [List.map_cons, cutF_qty (h1 o (List.mem_cons_self ..)), List.filter_cons_of_pos (by simpa using (show 0 < o.qty by omega)), less_none (fun x hx => h1 x (List.mem_cons_of_mem _ hx)) (fun x hx => h2 x (List.mem_cons_of_mem _ hx))]
theorem side_ids {L : List Ord} (h : LOk L) (s : Int) : ((sideO s L).map Ord.id).Nodup := by
  have h1 : (onSide s L).Sublist L := List.filter_sublist
  have h2 := (h1.map Ord.id).nodup h.ids
  exact ((ssort_perm (rankO s) (onSide s L)).map Ord.id).nodup_iff.2 h2
/-- the best one has lots less, or goes; all others stay -/
theorem side_best {L : List Ord} (h : LOk L) {s n : Int} {x : Ord} {T : List Ord} (hs : sideO s L = x :: T) (hq : n ≤ x.qty) : sideO s (lessF x.id n L) = if x.qty = n then T else cutO n x :: T := by
  have hnd := side_ids h s
  rw [hs, List.map_cons, List.nodup_cons] at hnd
  have hT : ∀ o ∈ T, o.id ≠ x.id := fun o ho e => hnd.1 (List.mem_map.2 ⟨o, ho, e⟩)
  have hTq : ∀ o ∈ T, 1 ≤ o.qty := fun o ho => (h.ok o (sideO_mem.1 (show o ∈ sideO s L by rw [hs]; exact List.mem_cons_of_mem _ ho)).1).2.2.1
  rw [side_less, hs, List.map_cons, cutF_hit]
  by_cases e : x.qty = n
  · rw [if_pos e, List.filter_cons_of_neg (by show ¬ decide (0 < x.qty - n) = true; simp; omega), less_none hT hTq]
  · rw [if_neg e, List.filter_cons_of_pos (by show decide (0 < x.qty - n) = true; simp; omega), less_none hT hTq]
theorem side_other {L : List Ord} (h : LOk L) {s t n : Int} {x : Ord} (hx : x ∈ sideO s L) (hne : t ≠ s) : sideO t (lessF x.id n L) = sideO t L := by
  obtain ⟨hxL, hxs⟩ := sideO_mem.1 hx
  rw [side_less]
  refine less_none (fun o ho e => ?_) (fun o ho => (h.ok o (sideO_mem.1 ho).1).2.2.1)
  obtain ⟨hoL, hos⟩ := sideO_mem.1 ho
  have := id_inj h.ids hoL hxL e
  rw [this, hxs] at hos
  exact hne hos.symm

/-- 8.1: is an order willing at a price? -/
def wilB (s p : Int) (o : Ord) : Bool := (o.kind == 2) || (((s == 1) && decide (p ≤ o.price)) || ((s == 2) && decide (o.price ≤ p)))
def wilL (s p : Int) (L : List Ord) : Int := (L.map fun o => if (o.side == s && wilB s p o) = true then o.qty else 0).sum
theorem wilL_cons (s p : Int) (o : Ord) (L : List Ord) : wilL s p (o :: L) = (if (o.side == s && wilB s p o) = true then o.qty else 0) + wilL s p L := by simp [wilL]
theorem wilL_in (s p : Int) : ∀ {L : List Ord}, LOk L → 0 ≤ wilL s p L ∧ wilL s p L ≤ 1000000 * (L.length : Int)
  | [], _ => by simp [wilL]
  | o :: L, h => by
    have h' : LOk L := ⟨fun x hx => h.side x (List.mem_cons_of_mem _ hx), (List.nodup_cons.1 h.ids).2, fun x hx => h.ok x (List.mem_cons_of_mem _ hx)⟩
    have ih := wilL_in s p h'
    have ho := h.ok o (List.mem_cons_self ..)
    rw [wilL_cons, List.length_cons]
    split <;> omega
theorem wil_some {s p : Int} : ∀ {L : List Ord}, (∀ o ∈ L, 1 ≤ o.qty) → 0 < wilL s p L → ∃ o ∈ L, o.side = s ∧ wilB s p o = true
  | [], _, h => by simp [wilL] at h
  | o :: L, hq, h => by
    rw [wilL_cons] at h
    by_cases e : (o.side == s && wilB s p o) = true
    · rw [Bool.and_eq_true, beq_iff_eq] at e
      exact ⟨o, List.mem_cons_self .., e.1, e.2⟩
    · rw [if_neg e] at h
      obtain ⟨x, hx, h1⟩ := wil_some (fun y hy => hq y (List.mem_cons_of_mem _ hy)) (show 0 < wilL s p L by omega)
      exact ⟨x, List.mem_cons_of_mem _ hx, h1⟩
theorem wil_less {s p id n : Int} : ∀ {L : List Ord}, (L.map Ord.id).Nodup → (∀ o ∈ L, 1 ≤ o.qty) → (∀ o ∈ L, o.id = id → n ≤ o.qty) → wilL s p (lessF id n L) = wilL s p L - (if ∃ o ∈ L, o.id = id ∧ (o.side == s && wilB s p o) = true then n else 0)
  | [], _, _, _ => by simp [wilL, lessF]
  | o :: L, hd, hq, hn => by
    rw [List.map_cons, List.nodup_cons] at hd
    have ih := wil_less (s := s) (p := p) (id := id) (n := n) hd.2 (fun x hx => hq x (List.mem_cons_of_mem _ hx)) (fun x hx => hn x (List.mem_cons_of_mem _ hx))
    have hqo := hq o (List.mem_cons_self ..)
    have hw : ∀ (q : Int), (({ o with qty := q } : Ord).side == s && wilB s p { o with qty := q }) = (o.side == s && wilB s p o) := fun q => rfl
    by_cases e : o.id = id
    · have hno : ¬ ∃ x ∈ L, x.id = id ∧ (x.side == s && wilB s p x) = true := fun ⟨x, hx, h1, _⟩ => hd.1 (List.mem_map.2 ⟨x, hx, by rw [h1, e]⟩)
      rw [if_neg hno] at ih
      have hqn := hn o (List.mem_cons_self ..) e
      have hc : cutF id n o = { o with qty := o.qty - n } := by unfold cutF; rw [if_pos e]; rfl
      have hL : lessF id n (o :: L) = if 0 < o.qty - n then { o with qty := o.qty - n } :: lessF id n L else lessF id n L := by
        unfold lessF
        rw [List.map_cons, hc, List.filter_cons]
        simp
      by_cases hwo : (o.side == s && wilB s p o) = true
      · have hex : ∃ x ∈ o :: L, x.id = id ∧ (x.side == s && wilB s p x) = true := ⟨o, List.mem_cons_self .., e, hwo⟩
        have e1 : wilL s p (o :: L) = o.qty + wilL s p L := by rw [wilL_cons, if_pos hwo]
        rw [hL, e1, if_pos hex]
        by_cases hp : 0 < o.qty - n
        · have e2 : wilL s p ({ o with qty := o.qty - n } :: lessF id n L) = (o.qty - n) + wilL s p (lessF id n L) := by rw [wilL_cons, hw, if_pos hwo]
          rw [if_pos hp, e2, ih]; omega
        · rw [if_neg hp, ih]; omega
      · have hno2 : ¬ ∃ x ∈ o :: L, x.id = id ∧ (x.side == s && wilB s p x) = true := fun ⟨x, hx, h1, h2⟩ => by
          rw [List.mem_cons] at hx
          rcases hx with rfl | hx
          · exact hwo h2
          · exact hno ⟨x, hx, h1, h2⟩
        have e1 : wilL s p (o :: L) = 0 + wilL s p L := by rw [wilL_cons, if_neg hwo]
        rw [hL, e1, if_neg hno2]
        by_cases hp : 0 < o.qty - n
        · have e2 : wilL s p ({ o with qty := o.qty - n } :: lessF id n L) = 0 + wilL s p (lessF id n L) := by rw [wilL_cons, hw, if_neg hwo]
          rw [if_pos hp, e2, ih]; omega
        · rw [if_neg hp, ih]; omega
    · have hL : lessF id n (o :: L) = o :: lessF id n L := by
        unfold lessF
        rw [List.map_cons, cutF_qty e, List.filter_cons_of_pos (by simpa using (show 0 < o.qty by omega))]
      have hiff : (∃ x ∈ o :: L, x.id = id ∧ (x.side == s && wilB s p x) = true) ↔ ∃ x ∈ L, x.id = id ∧ (x.side == s && wilB s p x) = true := by
        constructor
        · rintro ⟨x, hx, h1, h2⟩
          rw [List.mem_cons] at hx
          rcases hx with rfl | hx
          · exact absurd h1 e
          · exact ⟨x, hx, h1, h2⟩
        · rintro ⟨x, hx, h1, h2⟩; exact ⟨x, List.mem_cons_of_mem _ hx, h1, h2⟩
      rw [hL, wilL_cons, wilL_cons, ih]
      simp only [hiff]
      omega
/-- where somebody is willing, the best one is -/
theorem best_wil {L : List Ord} (h : LOk L) {s p : Int} (hs : s = 1 ∨ s = 2) (hw : 0 < wilL s p L) : ∃ x T, sideO s L = x :: T ∧ x ∈ L ∧ x.side = s ∧ wilB s p x = true := by
  obtain ⟨o, ho, h1, h2⟩ := wil_some (fun y hy => (h.ok y hy).2.2.1) hw
  have hm : o ∈ sideO s L := sideO_mem.2 ⟨ho, h1⟩
  match hS : sideO s L with
  | [] => rw [hS] at hm; cases hm
  | x :: T =>
    have hx : x ∈ sideO s L := by rw [hS]; exact List.mem_cons_self ..
    obtain ⟨hxL, hxs⟩ := sideO_mem.1 hx
    refine ⟨x, T, rfl, hxL, hxs, ?_⟩
    have hr : rankO s x ≤ rankO s o := by
      have hsrt := ssort_srt (rank := rankO s) (onSide s L)
      rw [show ssort (rankO s) (onSide s L) = x :: T from hS, List.pairwise_cons] at hsrt
      rw [hS, List.mem_cons] at hm
      rcases hm with rfl | hm
      · exact Int.le_refl _
      · exact hsrt.1 o hm
    have px := h.ok x hxL
    have po := h.ok o ho
    unfold rankO rankI at hr
    unfold wilB at h2 ⊢
    by_cases kx : x.kind = 2
    · rw [kx]; rfl
    · rw [if_neg kx] at hr
      by_cases ko : o.kind = 2
      · rw [if_pos ko] at hr
        split at hr <;> omega
      · rw [if_neg ko] at hr
        have kob : (o.kind == 2) = false := beq_eq_false_iff_ne.2 ko
        have kxb : (x.kind == 2) = false := beq_eq_false_iff_ne.2 kx
        rw [kob, Bool.false_or] at h2
        rw [kxb, Bool.false_or]
        rcases hs with rfl | rfl
        · rw [if_pos rfl, if_pos rfl] at hr
          simp at h2 ⊢; omega
        · rw [if_neg (by decide), if_neg (by decide)] at hr
          simp at h2 ⊢; omega

/-- trades so far, the orders that lie, the lots that are left -/
structure FS where
  fs : List Fil
  L : List Ord
  q : Int
def bestO (s : Int) (L : List Ord) : Ord := oAt (sideO s L) 0
def lotN (s : FS) : Int := min s.q (min (bestO 1 s.L).qty (bestO 2 s.L).qty)
def fstep (p : Int) (s : FS) : FS := ⟨s.fs ++ [⟨(bestO 1 s.L).id, (bestO 2 s.L).id, p, lotN s⟩], cutM (bestO 2 s.L).id (lotN s) (cutM (bestO 1 s.L).id (lotN s) s.L), s.q - lotN s⟩
def fiter (p : Int) (s : FS) : Nat → FS
  | 0 => s
  | k + 1 => fstep p (fiter p s k)
structure FOk (p : Int) (s : FS) : Prop where
  ok : LOk s.L
  nn : 0 ≤ s.q
  buy : s.q ≤ wilL 1 p s.L
  sell : s.q ≤ wilL 2 p s.L
/-- one trade more -/
theorem fstep_ok {p : Int} {s : FS} (h : FOk p s) (hq : 0 < s.q) :
    (∃ x T y U, sideO 1 s.L = x :: T ∧ sideO 2 s.L = y :: U ∧ bestO 1 s.L = x ∧ bestO 2 s.L = y ∧ x ∈ s.L ∧ y ∈ s.L ∧ y ∈ lessF x.id (lotN s) s.L ∧ 1 ≤ lotN s ∧ lotN s ≤ s.q ∧ lotN s ≤ x.qty ∧ lotN s ≤ y.qty ∧ cutM x.id (lotN s) s.L = lessF x.id (lotN s) s.L ∧ (fstep p s).L = lessF y.id (lotN s) (lessF x.id (lotN s) s.L)
      ∧ cutN x.id (lotN s) s.L = 0 ∧ cutN y.id (lotN s) (lessF x.id (lotN s) s.L) = 0 ∧ LOk (lessF x.id (lotN s) s.L)) ∧ FOk p (fstep p s) := by
  obtain ⟨hok, _, hb, hs⟩ := h
  obtain ⟨x, T, hS1, hxL, hxs, hxw⟩ := best_wil hok (s := 1) (p := p) (Or.inl rfl) (by omega)
  obtain ⟨y, U, hS2, hyL, hys, hyw⟩ := best_wil hok (s := 2) (p := p) (Or.inr rfl) (by omega)
  have hbx : bestO 1 s.L = x := by unfold bestO; rw [hS1]; rfl
  have hby : bestO 2 s.L = y := by unfold bestO; rw [hS2]; rfl
  have px := hok.ok x hxL
  have py := hok.ok y hyL
  have hn : lotN s = min s.q (min x.qty y.qty) := by unfold lotN; rw [hbx, hby]
  obtain ⟨n, hnn⟩ : ∃ n, lotN s = n := ⟨_, rfl⟩
  have n1 : 1 ≤ n ∧ n ≤ s.q ∧ n ≤ x.qty ∧ n ≤ y.qty := by omega
  obtain ⟨c1, c2⟩ := cut_is hok hxL (n := n) (by omega)
  have ok1 := hok.less x.id (n := n) (by omega)
  have hy1 : y ∈ lessF x.id n s.L := by
    have : y ∈ sideO 2 (lessF x.id n s.L) := by
      rw [side_other hok (s := 1) (t := 2) (x := x) (by rw [hS1]; exact List.mem_cons_self ..) (by decide), hS2]
      exact List.mem_cons_self ..
    exact (sideO_mem.1 this).1
  obtain ⟨c3, c4⟩ := cut_is ok1 hy1 (n := n) (by omega)
  have ok2 := ok1.less y.id (n := n) (by omega)
  have hL : (fstep p s).L = lessF y.id n (lessF x.id n s.L) := by
    show cutM (bestO 2 s.L).id (lotN s) (cutM (bestO 1 s.L).id (lotN s) s.L) = _
    rw [hbx, hby, hnn, c1, c3]
  have hq' : (fstep p s).q = s.q - n := by show s.q - lotN s = _; rw [hnn]
  have one : ∀ {L : List Ord}, LOk L → ∀ {z : Ord}, z ∈ L → n ≤ z.qty → ∀ t, wilL t p (lessF z.id n L) = wilL t p L - (if (z.side == t && wilB t p z) = true then n else 0) := fun {L} hL {z} hz hzq t => by
    rw [wil_less hL.ids (fun o ho => (hL.ok o ho).2.2.1) (fun o ho e => by rw [id_inj hL.ids ho hz e]; exact hzq)]
    congr 1
    by_cases hw : (z.side == t && wilB t p z) = true
    · rw [if_pos hw, if_pos ⟨z, hz, rfl, hw⟩]
    · rw [if_neg hw, if_neg]
      rintro ⟨o, ho, e, h2⟩
      rw [id_inj hL.ids ho hz e] at h2
      exact hw h2
  have w1 := one hok hxL n1.2.2.1 1
  have w2 := one hok hxL n1.2.2.1 2
  have w3 := one ok1 hy1 n1.2.2.2 1
  have w4 := one ok1 hy1 n1.2.2.2 2
  rw [if_pos (by rw [hxs, hxw]; rfl)] at w1
  rw [if_neg (by rw [hxs]; simp)] at w2
  rw [if_neg (by rw [hys]; simp)] at w3
  rw [if_pos (by rw [hys, hyw]; rfl)] at w4
  rw [hnn]
  refine ⟨⟨x, T, y, U, hS1, hS2, hbx, hby, hxL, hyL, hy1, n1.1, n1.2.1, n1.2.2.1, n1.2.2.2, c1, hL, c2, c4, ok1⟩, ?_⟩
  refine ⟨by rw [hL]; exact ok2, by rw [hq']; omega, ?_, ?_⟩
  · rw [hL, hq', w3, w1]; omega
  · rw [hL, hq', w4, w2]; omega
theorem fiter_ok {p : Int} {s : FS} (h : FOk p s) : ∀ k, (∀ j, j < k → 0 < (fiter p s j).q) → FOk p (fiter p s k)
  | 0, _ => h
  | k + 1, hq => (fstep_ok (fiter_ok h k (fun j hj => hq j (by omega))) (hq k (by omega))).2
end Go.Proofs.YtjdkagafdnchhaaGreatDoor

/-
  Whom an order that comes meets (8.2), as plain lists, and what stays true from trade to trade. No program is named here.
-/
namespace Go.Proofs.YtjdkagafdnchhaaGreatDoor
open Go.RowKit

/-- between two trades: the fills, the orders that lie, the lots that are left, the prices that were told -/
structure MS where
  fs : List Fil
  L : List Ord
  q : Int
  ts : List Int
def mfill (o x : Ord) (n : Int) : Fil := if o.side = 1 then ⟨o.id, x.id, x.price, n⟩ else ⟨x.id, o.id, x.price, n⟩
def mstep (o x : Ord) (s : MS) : MS := ⟨s.fs ++ [mfill o x (min s.q x.qty)], lessF x.id (min s.q x.qty) s.L, s.q - min s.q x.qty, s.ts ++ [x.price]⟩
/-- the other one's price is too far -/
def farB (o x : Ord) : Bool := !decide (o.kind = 2) && (decide (o.side = 1) && decide (o.price < x.price) || decide (o.side = 2) && decide (x.price < o.price))
def meet (al : Int → Bool) (o : Ord) : List Ord → MS → MS × Bool
  | [], s => (s, false)
  | x :: T, s => if s.q ≤ 0 then (s, false) else if x.kind = 2 then meet al o T s else if farB o x = true then (s, false) else if al x.price = true then meet al o T (mstep o x s) else (s, true)
variable {al : Int → Bool} {o x : Ord} {T X : List Ord} {s : MS}
theorem meet_done (h : s.q ≤ 0) : ∀ X, meet al o X s = (s, false)
  | [] => rfl
  | _ :: _ => by unfold meet; rw [if_pos h]
theorem meet_pass (h : 0 < s.q) (hk : x.kind = 2) : meet al o (x :: T) s = meet al o T s := by
  rw [meet, if_neg (by omega), if_pos hk]
theorem meet_far (h : 0 < s.q) (hk : x.kind ≠ 2) (hf : farB o x = true) : meet al o (x :: T) s = (s, false) := by
  rw [meet, if_neg (by omega), if_neg hk, if_pos hf]
theorem meet_stop (h : 0 < s.q) (hk : x.kind ≠ 2) (hf : farB o x = false) (ha : al x.price = false) : meet al o (x :: T) s = (s, true) := by
  rw [meet, if_neg (by omega), if_neg hk, if_neg (by rw [hf]; decide), if_neg (by rw [ha]; decide)]
theorem meet_trade (h : 0 < s.q) (hk : x.kind ≠ 2) (hf : farB o x = false) (ha : al x.price = true) : meet al o (x :: T) s = meet al o T (mstep o x s) := by
  rw [meet, if_neg (by omega), if_neg hk, if_neg (by rw [hf]; decide), if_pos ha]
/-- X: who is yet to be met -/
structure MOk (X : List Ord) (s : MS) : Prop where
  ok : LOk s.L
  here : ∀ x ∈ X, x ∈ s.L
  ids : (X.map Ord.id).Nodup
  one : s.ts.length = s.fs.length
theorem MOk.pass (h : MOk (x :: T) s) : MOk T s := ⟨h.ok, fun y hy => h.here y (List.mem_cons_of_mem _ hy), (List.nodup_cons.1 h.ids).2, h.one⟩
theorem MOk.lots (h : MOk (x :: T) s) (hq : 0 < s.q) : 1 ≤ min s.q x.qty ∧ min s.q x.qty ≤ x.qty ∧ min s.q x.qty ≤ s.q := by
  have := h.ok.ok x (h.here x (List.mem_cons_self ..))
  omega
theorem MOk.step (o : Ord) (h : MOk (x :: T) s) (hq : 0 < s.q) : MOk T (mstep o x s) := by
  have h1 := (List.nodup_cons.1 h.ids)
  have hn := h.lots hq
  refine ⟨h.ok.less _ (by omega), fun y hy => ?_, h1.2, ?_⟩
  · have hne : y.id ≠ x.id := fun e => h1.1 (by rw [← e]; exact List.mem_map_of_mem hy)
    have hL := h.here y (List.mem_cons_of_mem _ hy)
    show y ∈ lessF _ _ _
    unfold lessF
    rw [List.mem_filter, List.mem_map]
    exact ⟨⟨y, hL, cutF_qty hne⟩, by have := h.ok.ok y hL; simpa using (show 0 < y.qty by omega)⟩
  · show (s.ts ++ [_]).length = (s.fs ++ [_]).length
    rw [List.length_append, List.length_append, h.one]; rfl
theorem MOk.start {l : List Ord} (h : LOk l) (t q : Int) : MOk (sideO t l) ⟨[], l, q, []⟩ := ⟨h, fun _ hx => (sideO_mem.1 hx).1, side_ids h t, rfl⟩
end Go.Proofs.YtjdkagafdnchhaaGreatDoor

/-
  Whom an order that comes meets (8.2), where it is asked anew ahead of each trade, as plain lists. No program is named here.
-/
namespace Go.Proofs.YtjdkagafdnchhaaGreatDoor
open Go.RowKit

def meetS (al : List Int → Int → Bool) (o : Ord) : List Ord → MS → MS × Bool
  | [], s => (s, false)
  | x :: T, s => if s.q ≤ 0 then (s, false) else if x.kind = 2 then meetS al o T s else if farB o x = true then (s, false) else if al s.ts x.price = true then meetS al o T (mstep o x s) else (s, true)
section
variable {al : List Int → Int → Bool} {o x : Ord} {T X : List Ord} {s : MS}
theorem meetS_done (h : s.q ≤ 0) : ∀ X, meetS al o X s = (s, false)
  | [] => rfl
  | _ :: _ => by unfold meetS; rw [if_pos h]
theorem meetS_pass (h : 0 < s.q) (hk : x.kind = 2) : meetS al o (x :: T) s = meetS al o T s := by
  rw [meetS, if_neg (by omega), if_pos hk]
theorem meetS_next (hk : x.kind = 2) : meetS al o (x :: T) s = meetS al o T s := by
  by_cases h : s.q ≤ 0
  · rw [meetS_done h, meetS_done h]
  · exact meetS_pass (by omega) hk
theorem meetS_far (h : 0 < s.q) (hk : x.kind ≠ 2) (hf : farB o x = true) : meetS al o (x :: T) s = (s, false) := by
  rw [meetS, if_neg (by omega), if_neg hk, if_pos hf]
theorem meetS_stop (h : 0 < s.q) (hk : x.kind ≠ 2) (hf : farB o x = false) (ha : al s.ts x.price = false) : meetS al o (x :: T) s = (s, true) := by
  rw [meetS, if_neg (by omega), if_neg hk, if_neg (by rw [hf]; decide), if_neg (by rw [ha]; decide)]
theorem meetS_trade (h : 0 < s.q) (hk : x.kind ≠ 2) (hf : farB o x = false) (ha : al s.ts x.price = true) : meetS al o (x :: T) s = meetS al o T (mstep o x s) := by
  rw [meetS, if_neg (by omega), if_neg hk, if_neg (by rw [hf]; decide), if_pos ha]
end
theorem meetS_const (al : Int → Bool) (o : Ord) : ∀ (X : List Ord) (s : MS), meetS (fun _ => al) o X s = meet al o X s
  | [], _ => rfl
  | x :: T, s => by
    unfold meetS meet
    rw [meetS_const al o T s, meetS_const al o T (mstep o x s)]
theorem meetS_len (al : List Int → Int → Bool) (o : Ord) : ∀ (X : List Ord) (s : MS), (meetS al o X s).1.fs.length ≤ s.fs.length + X.length ∧ (meetS al o X s).1.ts.length ≤ s.ts.length + X.length
  | [], s => ⟨Nat.le_refl _, Nat.le_refl _⟩
  | x :: T, s => by
    have stay : s.fs.length ≤ s.fs.length + (x :: T).length ∧ s.ts.length ≤ s.ts.length + (x :: T).length := ⟨Nat.le_add_right _ _, Nat.le_add_right _ _⟩
    unfold meetS
    split
    · exact stay
    · split
      · have := meetS_len al o T s
        rw [List.length_cons]; omega
      · split
        · exact stay
        · split
          · have h := meetS_len al o T (mstep o x s)
            have e1 : (mstep o x s).fs.length = s.fs.length + 1 := by show (s.fs ++ [_]).length = _; rw [List.length_append]; rfl
            have e2 : (mstep o x s).ts.length = s.ts.length + 1 := by show (s.ts ++ [_]).length = _; rw [List.length_append]; rfl
            rw [List.length_cons]; omega
          · exact stay
end Go.Proofs.YtjdkagafdnchhaaGreatDoor

/-
  An order in a block of its own, and what is left of it. No program is named here.
-/
namespace Go.Proofs.YtjdkagafdnchhaaGreatDoor
open Go.RowKit

/-- an order in a block of its own -/
def DBox (w : World) (b : Nat) (o : Ord) : Prop := w.heap[b]? = some (.cells #[.int .i64 o.id, .int .i64 o.side, .int .i64 o.kind, .int .i64 o.price, .int .i64 o.qty] 41 (0, 0))
def ZBox (w : World) (b : Nat) : Prop := w.heap[b]? = some (.cells #[.int .i64 0, .int .i64 0, .int .i64 0, .int .i64 0, .int .i64 0] 41 (0, 0))
/-- an order written into a box -/
def boxed (w : World) (b : Nat) (o : Ord) : World := ((((w.setCell ⟨b, 0, none⟩ (.int .i64 o.id)).setCell ⟨b, 1, none⟩ (.int .i64 o.side)).setCell ⟨b, 2, none⟩ (.int .i64 o.kind)).setCell ⟨b, 3, none⟩ (.int .i64 o.price)).setCell ⟨b, 4, none⟩ (.int .i64 o.qty)
theorem boxed_out (w : World) (b : Nat) (o : Ord) : Out (fun j => j = b) w (boxed w b o) :=
  ((((out_set w ⟨b, 0, none⟩ _).trans (out_set _ ⟨b, 1, none⟩ _) (Went.refl _ _)).trans (out_set _ ⟨b, 2, none⟩ _) (Went.refl _ _)).trans (out_set _ ⟨b, 3, none⟩ _) (Went.refl _ _)).trans (out_set _ ⟨b, 4, none⟩ _) (Went.refl _ _)
theorem boxed_is {w : World} {b : Nat} (o : Ord) (h : ZBox w b) : DBox (boxed w b o) b o :=
  blk_set (j := 4) _ (blk_set (j := 3) _ (blk_set (j := 2) _ (blk_set (j := 1) _ (blk_set (j := 0) _ h))))
def leftO (o : Ord) (q : Int) : Ord := ⟨o.id, o.side, o.kind, o.price, q⟩
end Go.Proofs.YtjdkagafdnchhaaGreatDoor

/-
  How many trades there are at an auction's price (8.1): never more than orders lie. No program is named here.
-/
namespace Go.Proofs.YtjdkagafdnchhaaGreatDoor
open Go.RowKit

theorem less_le (id n : Int) (L : List Ord) : (lessF id n L).length ≤ L.length := by
  unfold lessF
  exact Nat.le_trans (List.length_filter_le _ _) (by rw [List.length_map]; exact Nat.le_refl _)
theorem less_lt {L : List Ord} {x : Ord} (hx : x ∈ L) : (lessF x.id x.qty L).length < L.length := by
  have h : ((L.map (cutF x.id x.qty)).filter fun o => decide (0 < o.qty)).length < (L.map (cutF x.id x.qty)).length := by
    refine List.length_filter_lt_length_iff_exists.2 ⟨cutF x.id x.qty x, List.mem_map_of_mem hx, ?_⟩
    rw [cutF_hit]
    show ¬ decide (0 < x.qty - x.qty) = true
    simp
  rw [List.length_map] at h
  exact h
/-- as long as lots are left behind a trade, one order less lies -/
theorem fstep_few {p : Int} {s : FS} (h : FOk p s) (hq : 0 < s.q) (hq2 : 0 < (fstep p s).q) : (fstep p s).L.length < s.L.length := by
  obtain ⟨⟨x, T, y, U, _, _, hbx, hby, hxL, _, hy1, _, _, n3, n4, _, hL2, _, _, _⟩, _⟩ := fstep_ok h hq
  have e1 : lotN s = min s.q (min x.qty y.qty) := by unfold lotN; rw [hbx, hby]
  have e2 : (fstep p s).q = s.q - lotN s := rfl
  rw [hL2]
  have hc : lotN s = x.qty ∨ lotN s = y.qty := by omega
  rcases hc with hc | hc
  · rw [hc]; exact Nat.lt_of_le_of_lt (less_le _ _ _) (less_lt hxL)
  · rw [hc] at hy1 ⊢; exact Nat.lt_of_lt_of_le (less_lt hy1) (less_le _ _ _)
theorem fiter_few {p : Int} {s : FS} (h : FOk p s) : ∀ k, (∀ j, j < k + 1 → 0 < (fiter p s j).q) → k + (fiter p s k).L.length ≤ s.L.length
  | 0, _ => by show 0 + s.L.length ≤ s.L.length; omega
  | k + 1, hq => by
    have ih := fiter_few h k (fun j hj => hq j (by omega))
    have h1 := fstep_few (fiter_ok h k (fun j hj => hq j (by omega))) (hq k (by omega)) (hq (k + 1) (by omega))
    have e : fiter p s (k + 1) = fstep p (fiter p s k) := rfl
    rw [e]; omega
end Go.Proofs.YtjdkagafdnchhaaGreatDoor

/-
  Which kinds may come in which phase (2.2), as plain functions; what package calendar's Auctions, Takes and gathers return, over this seat's translation. No conditions.
-/
namespace Go.Proofs.YtjdkagafdnchhaaGreatDoor
open Go.RowKit
set_option linter.unusedSimpArgs false

def gathersB (p : Int) : Bool := p == 2 || p == 4 || p == 5
def auctB (p : Int) : Bool := p == 1 || p == 2 || p == 4 || p == 5
def takesB (p k : Int) : Bool := (k == 1 && (auctB p || p == 3)) || (k == 4 && (auctB p || p == 3)) || (k == 2 && (p == 3 || gathersB p)) || (k == 3 && auctB p)
theorem tk_ret {a b : Bool} (h : a = b) : Ending.returned (.bool a) = .returned (.bool b) := by rw [h]

theorem tkGath (p : Int) (w : World) : Calls Tryz.prog 113 #[.int .i64 p] w fun e w' => e = .returned (.bool (gathersB p)) ∧ w' = w := by
  go_enter Tryz.func113, Tryz.ntmps113
  go_wp2
  all_goals (go_ret; refine ⟨tk_ret ?_, rfl⟩; (first | rfl | (rw [Bool.eq_iff_iff]; simp only [takesB, auctB, gathersB, Bool.or_eq_true, Bool.and_eq_true, beq_iff_eq, beq_eq_false_iff_ne, ne_eq, decide_eq_true_eq, true_iff, Bool.false_eq_true, false_iff] at *; omega)))

theorem tkAuct (p : Int) (w : World) : Calls Tryz.prog 70 #[.int .i64 p] w fun e w' => e = .returned (.bool (auctB p)) ∧ w' = w := by
  go_enter Tryz.func70, Tryz.ntmps70
  go_wp2
  all_goals (go_ret; refine ⟨tk_ret ?_, rfl⟩; (first | rfl | (rw [Bool.eq_iff_iff]; simp only [takesB, auctB, gathersB, Bool.or_eq_true, Bool.and_eq_true, beq_iff_eq, beq_eq_false_iff_ne, ne_eq, decide_eq_true_eq, true_iff, Bool.false_eq_true, false_iff] at *; omega)))

theorem tkTakes (p k : Int) (w : World) : Calls Tryz.prog 92 #[.int .i64 p, .int .i64 k] w fun e w' => e = .returned (.bool (takesB p k)) ∧ w' = w := by
  go_enter Tryz.func92, Tryz.ntmps92
  go_wp2_with (first | (go_at_call 70; refine (tkAuct _ _).mono ?_; rintro e w1 ⟨rfl, rfl⟩) | (go_at_call 113; refine (tkGath _ _).mono ?_; rintro e w1 ⟨rfl, rfl⟩))
  all_goals (go_ret; refine ⟨tk_ret ?_, rfl⟩; (first | rfl | (rw [Bool.eq_iff_iff]; simp only [takesB, auctB, gathersB, Bool.or_eq_true, Bool.and_eq_true, beq_iff_eq, beq_eq_false_iff_ne, ne_eq, decide_eq_true_eq, true_iff, Bool.false_eq_true, false_iff] at *; omega)))

end Go.Proofs.YtjdkagafdnchhaaGreatDoor

/-
  What package num's Band returns, over this seat's translation, told by plain functions bandL, bandH. Conditions stand in each theorem.
-/
namespace Go.Proofs.YtjdkagafdnchhaaGreatDoor
open Go.RowKit

/-- 1.1: Band's least price, its greatest, and its error's number. -/
def bandOk (p s : Int) : Bool := inB 1 1000000 p && inB 0 10000 s
def bandL (p s : Int) : Int := if bandOk p s = true then max 1 (p - p * s / 10000) else 0
def bandH (p s : Int) : Int := if bandOk p s = true then min 1000000 (p + p * s / 10000) else 0
def bandE (p s : Int) : Int := if bandOk p s = true then 0 else 2
def midOk (a b : Int) : Bool := inB 1 1000000 a && inB 1 1000000 b
def midV (a b : Int) : Int := if midOk a b = true then (a + b) / 2 else 0
def midE (a b : Int) : Int := if midOk a b = true then 0 else 2
theorem mul_bound {p s : Int} (hp : 1 ≤ p ∧ p ≤ 1000000) (hs : 0 ≤ s ∧ s ≤ 10000) : 0 ≤ p * s ∧ p * s ≤ 10000000000 := by
  have h1 : 0 ≤ p * s := Int.mul_nonneg (by omega) hs.1
  have h2 : p * s ≤ 1000000 * 10000 := Int.mul_le_mul hp.2 hs.2 hs.1 (by omega)
  exact ⟨h1, by omega⟩



theorem prices_two (z y : Int) (b : Nat) (w : World) (hc : w.cell? ⟨b, 0, none⟩ = some (.int .i64 z)) (hc1 : w.cell? ⟨b, 1, none⟩ = some (.int .i64 y)) :
    Calls Tryz.prog 133 #[.slice (some ⟨b, 0, none⟩) 2 2] w fun e w' => e = .returned (.bool (midOk z y)) ∧ w' = w := by
  unfold midOk
  rw [← allIn_two]
  exact prices_any b [z, y] w (by simp) (fun j hj => by
    have hj' : j < 2 := hj
    have : j = 0 ∨ j = 1 := by omega
    rcases this with rfl | rfl
    · exact hc
    · exact hc1)

theorem ret_band {a b c d : Int} {v : Value} (h1 : a = c) (h2 : b = d) : Ending.returned (.tuple #[.int .i64 a, .int .i64 b, v]) = .returned (.tuple #[.int .i64 c, .int .i64 d, v]) := by rw [h1, h2]
theorem bandL_ok {p s : Int} (h : bandOk p s = true) : bandL p s = max 1 (p - p * s / 10000) := if_pos h
theorem bandH_ok {p s : Int} (h : bandOk p s = true) : bandH p s = min 1000000 (p + p * s / 10000) := if_pos h
theorem bandE_ok {p s : Int} (h : bandOk p s = true) : bandE p s = 0 := if_pos h
theorem bandL_no {p s : Int} (h : bandOk p s = false) : bandL p s = 0 := if_neg (by rw [h]; decide)
theorem bandH_no {p s : Int} (h : bandOk p s = false) : bandH p s = 0 := if_neg (by rw [h]; decide)
theorem bandE_no {p s : Int} (h : bandOk p s = false) : bandE p s = 2 := if_neg (by rw [h]; decide)

set_option maxHeartbeats 400000 in
theorem Band_ok (p s : Int) (w : World) (hp : 1 ≤ p ∧ p ≤ 1000000) (hs : 0 ≤ s ∧ s ≤ 10000) :
    Calls Tryz.prog 80 #[.int .i64 p, .int .i64 s] w fun e w' => e = .returned (.tuple #[.int .i64 (max 1 (p - p * s / 10000)), .int .i64 (min 1000000 (p + p * s / 10000)), .nilIface]) ∧ Below w.heap.size w w' := by
  have hm := mul_bound hp hs
  go_enter Tryz.func80, Tryz.ntmps80
  go_wp2_with fail
  refine (prices_one p _ _ (by simp [go_sem])).mono ?_
  rintro e w' ⟨rfl, rfl⟩
  rw [inB_yes hp]
  go_wp2_with fail
  refine (within_one 0 10000 s _ _ (by simp [go_sem])).mono ?_
  rintro e w' ⟨rfl, rfl⟩
  rw [inB_yes hs]
  go_wp2_with fail
  all_goals
    go_ret3
    exact ⟨ret_band (by omega) (by omega), by go_grown⟩

set_option maxHeartbeats 400000 in
theorem Band_no (p s : Int) (w : World) (h : bandOk p s = false) :
    Calls Tryz.prog 80 #[.int .i64 p, .int .i64 s] w fun e w' => e = .returned (.tuple #[.int .i64 0, .int .i64 0, .iface 32 (.int .i64 2)]) ∧ Below w.heap.size w w' := by
  cases hp : inB 1 1000000 p with
  | false =>
    have HP : Hid (inB 1 1000000 p = false) := hp
    clear hp h
    go_enter Tryz.func80, Tryz.ntmps80
    go_wp2_with fail
    refine (prices_one p _ _ (by simp [go_sem])).mono ?_
    rintro e w' ⟨rfl, rfl⟩
    rw [HP.out]
    go_wp2_with fail
    go_ret3
    exact ⟨rfl, by go_grown⟩
  | true =>
    have hs : inB 0 10000 s = false := by unfold bandOk at h; rw [hp] at h; simpa using h
    have HP : Hid (inB 1 1000000 p = true) := hp
    have HS : Hid (inB 0 10000 s = false) := hs
    clear hp hs h
    go_enter Tryz.func80, Tryz.ntmps80
    go_wp2_with fail
    refine (prices_one p _ _ (by simp [go_sem])).mono ?_
    rintro e w' ⟨rfl, rfl⟩
    rw [HP.out]
    go_wp2_with fail
    refine (within_one 0 10000 s _ _ (by simp [go_sem])).mono ?_
    rintro e w' ⟨rfl, rfl⟩
    rw [HS.out]
    go_wp2_with fail
    go_ret3
    exact ⟨rfl, by go_grown⟩

theorem bandOk_true {p s : Int} (h : bandOk p s = true) : (1 ≤ p ∧ p ≤ 1000000) ∧ (0 ≤ s ∧ s ≤ 10000) := by
  unfold bandOk at h
  rw [Bool.and_eq_true] at h
  exact ⟨inB_true h.1, inB_true h.2⟩

theorem rightB_one (p : Int) : rightB p 1 = inB 1 1000000 p := by
  unfold rightB; rw [inB_yes (show (1 : Int) ≤ 1 ∧ (1 : Int) ≤ 1000000 by omega), Bool.and_true]
end Go.Proofs.YtjdkagafdnchhaaGreatDoor

/-
  What package bands' functions, and the document's own Calm and Allows, return over this seat's translation, told by the plain functions of Num. Conditions stand in each theorem: where the bands, or the market, lie.
-/
namespace Go.Proofs.YtjdkagafdnchhaaGreatDoor
open Go.RowKit

theorem bn_cell {w : World} {b j : Nat} {vs : Array Value} {t : TypeId} {v : Value} (h : w.heap[b]? = some (.cells vs t (0, 0))) (hj : vs[j]? = some v) : w.cell? ⟨b, j, none⟩ = some v := (cell_of_row w b j vs t (0, 0) h).trans hj
theorem bn_free {w : World} {b j : Nat} {vs : Array Value} {t : TypeId} (h : w.heap[b]? = some (.cells vs t (0, 0))) : w.frozen? ⟨b, j, none⟩ = false := frozen_of_row w b j vs t h
theorem bn_set {w : World} {b j : Nat} {vs : Array Value} {t : TypeId} (u : Value) (h : w.heap[b]? = some (.cells vs t (0, 0))) : (w.setCell ⟨b, j, none⟩ u).heap[b]? = some (.cells (vs.setIfInBounds j u) t (0, 0)) := heap_setCell_same w b j vs t u h
theorem bn_below {w w' : World} {b B : Nat} {o : Obj} (h : w.heap[b]? = some o) (hb : Below B w w') (hB : w.heap.size ≤ B) : w'.heap[b]? = some o := (hb.block b (Nat.lt_of_lt_of_le (lt_of_block h) hB)).trans h
theorem bn_out {S : Nat → Prop} {w w' : World} {b : Nat} {o : Obj} (h : w.heap[b]? = some o) (hb : Out S w w') (hS : ¬ S b) : w'.heap[b]? = some o := (hb.block b (lt_of_block h) hS).trans h
theorem bn_out_set (w : World) (a : Addr) (u : Value) : Out (fun j => j = a.block) w (w.setCell a u) := ⟨rfl, rfl, rfl, by simp, fun j _ hj => Below.heap_setCell _ _ _ _ (fun e => hj e)⟩
theorem bn_bel1 (w : World) (o : Obj) : Below w.heap.size w (w.alloc o) := (Below.refl _ _).alloc (Nat.le_refl _) o
theorem bn_then {w w1 w2 : World} (h : Below w.heap.size w w1) (h1 : Below w1.heap.size w1 w2) : Below w.heap.size w w2 := h.trans (h1.mono h.size)
theorem bn_out_then {S : Nat → Prop} {w w1 w2 : World} (h : Out S w w1) (h1 : Out S w1 w2) : Out S w w2 := h.trans h1 (Went.refl _ _)

/-- In w block bb is bands: their shares, and the prices around which they lie. -/
def BnAt (w : World) (bb : Nat) (s d a l : Int) : Prop := w.heap[bb]? = some (.cells #[.int .i64 s, .int .i64 d, .int .i64 a, .int .i64 l] 149 (0, 0))
theorem BnAt.below {w w' : World} {bb : Nat} {s d a l : Int} (h : BnAt w bb s d a l) (hb : Below w.heap.size w w') : BnAt w' bb s d a l := bn_below h hb (Nat.le_refl _)

/-- the error that Band makes -/
def bandEV (p s : Int) : Value := if bandOk p s = true then .nilIface else .iface 32 (.int .i64 2)
theorem Band_is (p s : Int) (w : World) :
    Calls Tryz.prog 80 #[.int .i64 p, .int .i64 s] w fun e w' => e = .returned (.tuple #[.int .i64 (bandL p s), .int .i64 (bandH p s), bandEV p s]) ∧ Below w.heap.size w w' := by
  cases h : bandOk p s with
  | true =>
    obtain ⟨hp, hs⟩ := bandOk_true h
    exact (Band_ok p s w hp hs).mono fun _ _ ⟨he, hb⟩ => ⟨by rw [he, bandL_ok h, bandH_ok h, show bandEV p s = .nilIface from if_pos h], hb⟩
  | false => exact (Band_no p s w h).mono fun _ _ ⟨he, hb⟩ => ⟨by rw [he, bandL_no h, bandH_no h, show bandEV p s = .iface 32 (.int .i64 2) from if_neg (by rw [h]; decide)], hb⟩

set_option maxRecDepth 4000 in
set_option maxHeartbeats 1000000 in
theorem bnBand0 (bb : Nat) (s d a l : Int) (w : World) (h : BnAt w bb s d a l) :
    Calls Tryz.prog 187 #[.pointer (some ⟨bb, 0, none⟩), .int .i64 0] w fun e w' => e = .returned (.tuple #[.int .i64 (bandL a s), .int .i64 (bandH a s)]) ∧ Below w.heap.size w w' := by
  have k0 := cell_regrown (bn_cell (j := 0) h rfl)
  have k2 := cell_regrown (bn_cell (j := 2) h rfl)
  have cB : ∀ dq os, Calls Tryz.prog 80 #[.int .i64 a, .int .i64 s] (Go.Sort.grow (redrawn w dq) os) fun e w'' => e = .returned (.tuple #[.int .i64 (bandL a s), .int .i64 (bandH a s), bandEV a s]) ∧ ∃ p : Regrown, w'' = Go.Sort.grow (redrawn w p.d) p.os := fun dq os => Calls.regrown_of (Band_is a s _)
  clear h
  go_enter Tryz.func187, Tryz.ntmps187
  go_wp2_with fail
  refine wp_region_quiet_below (by kernel_rfl) (by kernel_rfl) ?_
  repeat (go_big_quiet_step (exact cB _ _))
  refine wpQuiet_nil ?_
  intro _ hw'
  obtain ⟨⟨dq, osq⟩, hw''⟩ := hw'
  subst hw''
  go_wp2
  go_ret2
  exact ⟨rfl, below_regrown w dq osq⟩
set_option maxRecDepth 4000 in
set_option maxHeartbeats 1000000 in
theorem bnBand1 (bb : Nat) (s d a l : Int) (w : World) (h : BnAt w bb s d a l) :
    Calls Tryz.prog 187 #[.pointer (some ⟨bb, 0, none⟩), .int .i64 1] w fun e w' => e = .returned (.tuple #[.int .i64 (bandL l d), .int .i64 (bandH l d)]) ∧ Below w.heap.size w w' := by
  have k1 := cell_regrown (bn_cell (j := 1) h rfl)
  have k3 := cell_regrown (bn_cell (j := 3) h rfl)
  have cB : ∀ dq os, Calls Tryz.prog 80 #[.int .i64 l, .int .i64 d] (Go.Sort.grow (redrawn w dq) os) fun e w'' => e = .returned (.tuple #[.int .i64 (bandL l d), .int .i64 (bandH l d), bandEV l d]) ∧ ∃ p : Regrown, w'' = Go.Sort.grow (redrawn w p.d) p.os := fun dq os => Calls.regrown_of (Band_is l d _)
  clear h
  go_enter Tryz.func187, Tryz.ntmps187
  go_wp2_with fail
  refine wp_region_quiet_below (by kernel_rfl) (by kernel_rfl) ?_
  repeat (go_big_quiet_step (exact cB _ _))
  refine wpQuiet_nil ?_
  intro _ hw'
  obtain ⟨⟨dq, osq⟩, hw''⟩ := hw'
  subst hw''
  go_wp2
  go_ret2
  exact ⟨rfl, below_regrown w dq osq⟩
end Go.Proofs.YtjdkagafdnchhaaGreatDoor

/-
  What the functions of package bands return, and what they change, and the document's own Calm and Allows, over this seat's translation. Conditions stand in each theorem: where the bands, or the market, lie.
-/
namespace Go.Proofs.YtjdkagafdnchhaaGreatDoor
open Go.RowKit

/-- 5.1: may bands be of these? -/
def newOk (s d p : Int) : Bool := bandOk p s && bandOk p d
theorem bandEV_ok {p s : Int} (h : bandOk p s = true) : bandEV p s = .nilIface := if_pos h
theorem bandEV_no {p s : Int} (h : bandOk p s = false) : bandEV p s = .iface 32 (.int .i64 2) := if_neg (by rw [h]; decide)

set_option maxRecDepth 4000 in
set_option maxHeartbeats 4000000 in
theorem bnNew_no (s d p : Int) (w : World) (h : newOk s d p = false) :
    Calls Tryz.prog 35 #[.int .i64 s, .int .i64 d, .int .i64 p] w fun e w' => e = .returned (.tuple #[.pointer none, .iface 32 (.int .i64 2)]) ∧ Below w.heap.size w w' := by
  have HN : Hid (newOk s d p = false) := h
  clear h
  go_enter Tryz.func35, Tryz.ntmps35
  go_wp2_with fail
  have hb0 := bn_bel1 w (.cells #[.int .i64 s, .int .i64 d, .int .i64 p, .int .i64 p] 149)
  have hn0 : BnAt (w.alloc (.cells #[.int .i64 s, .int .i64 d, .int .i64 p, .int .i64 p] 149)) w.heap.size s d p p := heap_alloc_new w _
  generalize w.alloc (.cells #[.int .i64 s, .int .i64 d, .int .i64 p, .int .i64 p] 149) = w0 at hb0 hn0 ⊢
  have HB : Hid (Below w.heap.size w w0) := hb0
  have HA : Hid (BnAt w0 w.heap.size s d p p) := hn0
  clear hb0 hn0
  go_loopw [21] (fun v wr => ∃ k : Nat, k ≤ 1 ∧ v = .int .i64 k ∧ Below w.heap.size w wr ∧ BnAt wr w.heap.size s d p p ∧ (k = 1 → bandOk p s = true)) (fun v _ => 2 - (intOf v).toNat)
  case atStart => exact ⟨0, by omega, rfl, HB.out, HA.out, fun h => absurd h (by decide)⟩
  case round =>
    obtain ⟨k, hk, rfl, hb, ha, hq⟩ := hrel
    have HQ : Hid (k = 1 → bandOk p s = true) := hq
    have HB : Hid (Below w.heap.size w wr) := hb
    have HA : Hid (BnAt wr w.heap.size s d p p) := ha
    have k0 := cell_regrown (bn_cell (j := 0) ha rfl)
    have k1 := cell_regrown (bn_cell (j := 1) ha rfl)
    have k2 := cell_regrown (bn_cell (j := 2) ha rfl)
    have k3 := cell_regrown (bn_cell (j := 3) ha rfl)
    clear hq hb ha
    have hk01 : k = 0 ∨ k = 1 := by omega
    rcases hk01 with rfl | rfl
    · have cB : ∀ dq os, Calls Tryz.prog 80 #[.int .i64 p, .int .i64 s] (Go.Sort.grow (redrawn wr dq) os) fun e w'' => e = .returned (.tuple #[.int .i64 (bandL p s), .int .i64 (bandH p s), bandEV p s]) ∧ ∃ p : Regrown, w'' = Go.Sort.grow (redrawn wr p.d) p.os := fun dq os => Calls.regrown_of (Band_is p s _)
      go_wp2_with fail
      refine wp_region_quiet_below (by kernel_rfl) (by kernel_rfl) ?_
      repeat (go_big_quiet_step (exact cB _ _))
      refine wpQuiet_nil ?_
      intro _ hw'
      obtain ⟨⟨dq, osq⟩, hw''⟩ := hw'
      subst hw''
      have hbw := below_regrown wr dq osq
      generalize Go.Sort.grow (redrawn wr dq) osq = w5 at hbw ⊢
      have HB5 : Hid (Below w.heap.size w w5) := bn_then HB.out hbw
      have HA5 : Hid (BnAt w5 w.heap.size s d p p) := HA.out.below hbw
      clear hbw k0 k1 k2 k3 cB
      cases ho : bandOk p s with
      | true =>
        have HO : Hid (bandOk p s = true) := ho
        rw [bandEV_ok ho]
        clear ho
        go_wp2
        go_roundw
        case rel => exact ⟨1, by omega, rfl, HB5.out, HA5.out, fun _ => HO.out⟩
        case measure => simp [intOf]
      | false =>
        rw [bandEV_no ho]
        clear ho
        go_wp2
        go_ret2
        exact ⟨rfl, HB5.out⟩
    · have cB : ∀ dq os, Calls Tryz.prog 80 #[.int .i64 p, .int .i64 d] (Go.Sort.grow (redrawn wr dq) os) fun e w'' => e = .returned (.tuple #[.int .i64 (bandL p d), .int .i64 (bandH p d), bandEV p d]) ∧ ∃ p : Regrown, w'' = Go.Sort.grow (redrawn wr p.d) p.os := fun dq os => Calls.regrown_of (Band_is p d _)
      go_wp2_with fail
      refine wp_region_quiet_below (by kernel_rfl) (by kernel_rfl) ?_
      repeat (go_big_quiet_step (exact cB _ _))
      refine wpQuiet_nil ?_
      intro _ hw'
      obtain ⟨⟨dq, osq⟩, hw''⟩ := hw'
      subst hw''
      have hbw := below_regrown wr dq osq
      generalize Go.Sort.grow (redrawn wr dq) osq = w5 at hbw ⊢
      have HB5 : Hid (Below w.heap.size w w5) := bn_then HB.out hbw
      clear hbw k0 k1 k2 k3 cB
      have ho : bandOk p d = false := by
        have h := HN.out
        unfold newOk at h
        rw [HQ.out (by trivial)] at h
        simpa using h
      rw [bandEV_no ho]
      clear ho
      go_wp2
      go_ret2
      exact ⟨rfl, HB5.out⟩

set_option maxRecDepth 4000 in
set_option maxHeartbeats 4000000 in
theorem bnNew_ok (s d p : Int) (w : World) (h : newOk s d p = true) :
    Calls Tryz.prog 35 #[.int .i64 s, .int .i64 d, .int .i64 p] w fun e w' => e = .returned (.tuple #[.pointer (some ⟨w.heap.size, 0, none⟩), .nilIface]) ∧ Below w.heap.size w w' ∧ BnAt w' w.heap.size s d p p := by
  have h2 : bandOk p s = true ∧ bandOk p d = true := by unfold newOk at h; simpa using h
  have HN : Hid (bandOk p s = true ∧ bandOk p d = true) := h2
  clear h2
  clear h
  go_enter Tryz.func35, Tryz.ntmps35
  go_wp2_with fail
  have hb0 := bn_bel1 w (.cells #[.int .i64 s, .int .i64 d, .int .i64 p, .int .i64 p] 149)
  have hn0 : BnAt (w.alloc (.cells #[.int .i64 s, .int .i64 d, .int .i64 p, .int .i64 p] 149)) w.heap.size s d p p := heap_alloc_new w _
  generalize w.alloc (.cells #[.int .i64 s, .int .i64 d, .int .i64 p, .int .i64 p] 149) = w0 at hb0 hn0 ⊢
  have HB : Hid (Below w.heap.size w w0) := hb0
  have HA : Hid (BnAt w0 w.heap.size s d p p) := hn0
  clear hb0 hn0
  go_loopw [21] (fun v wr => ∃ k : Nat, k ≤ 2 ∧ v = .int .i64 k ∧ Below w.heap.size w wr ∧ BnAt wr w.heap.size s d p p) (fun v _ => 2 - (intOf v).toNat)
  case atStart => exact ⟨0, by omega, rfl, HB.out, HA.out⟩
  case round =>
    obtain ⟨k, hk, rfl, hb, ha⟩ := hrel
    have HB : Hid (Below w.heap.size w wr) := hb
    have HA : Hid (BnAt wr w.heap.size s d p p) := ha
    have k0 := cell_regrown (bn_cell (j := 0) ha rfl)
    have k1 := cell_regrown (bn_cell (j := 1) ha rfl)
    have k2 := cell_regrown (bn_cell (j := 2) ha rfl)
    have k3 := cell_regrown (bn_cell (j := 3) ha rfl)
    clear hb ha
    have hk01 : k = 0 ∨ k = 1 ∨ k = 2 := by omega
    rcases hk01 with rfl | rfl | rfl
    · have cB : ∀ dq os, Calls Tryz.prog 80 #[.int .i64 p, .int .i64 s] (Go.Sort.grow (redrawn wr dq) os) fun e w'' => e = .returned (.tuple #[.int .i64 (bandL p s), .int .i64 (bandH p s), bandEV p s]) ∧ ∃ p : Regrown, w'' = Go.Sort.grow (redrawn wr p.d) p.os := fun dq os => Calls.regrown_of (Band_is p s _)
      go_wp2_with fail
      refine wp_region_quiet_below (by kernel_rfl) (by kernel_rfl) ?_
      repeat (go_big_quiet_step (exact cB _ _))
      refine wpQuiet_nil ?_
      intro _ hw'
      obtain ⟨⟨dq, osq⟩, hw''⟩ := hw'
      subst hw''
      have hbw := below_regrown wr dq osq
      generalize Go.Sort.grow (redrawn wr dq) osq = w5 at hbw ⊢
      have HB5 : Hid (Below w.heap.size w w5) := bn_then HB.out hbw
      have HA5 : Hid (BnAt w5 w.heap.size s d p p) := HA.out.below hbw
      clear hbw k0 k1 k2 k3 cB
      rw [bandEV_ok HN.out.1]
      go_wp2
      go_roundw
      case rel => exact ⟨1, by omega, rfl, HB5.out, HA5.out⟩
      case measure => simp [intOf]
    · have cB : ∀ dq os, Calls Tryz.prog 80 #[.int .i64 p, .int .i64 d] (Go.Sort.grow (redrawn wr dq) os) fun e w'' => e = .returned (.tuple #[.int .i64 (bandL p d), .int .i64 (bandH p d), bandEV p d]) ∧ ∃ p : Regrown, w'' = Go.Sort.grow (redrawn wr p.d) p.os := fun dq os => Calls.regrown_of (Band_is p d _)
      go_wp2_with fail
      refine wp_region_quiet_below (by kernel_rfl) (by kernel_rfl) ?_
      repeat (go_big_quiet_step (exact cB _ _))
      refine wpQuiet_nil ?_
      intro _ hw'
      obtain ⟨⟨dq, osq⟩, hw''⟩ := hw'
      subst hw''
      have hbw := below_regrown wr dq osq
      generalize Go.Sort.grow (redrawn wr dq) osq = w5 at hbw ⊢
      have HB5 : Hid (Below w.heap.size w w5) := bn_then HB.out hbw
      have HA5 : Hid (BnAt w5 w.heap.size s d p p) := HA.out.below hbw
      clear hbw k0 k1 k2 k3 cB
      rw [bandEV_ok HN.out.2]
      go_wp2
      go_roundw
      case rel => exact ⟨2, by omega, rfl, HB5.out, HA5.out⟩
      case measure => simp [intOf]
    · clear k0 k1 k2 k3
      go_wp2
      go_ret2
      exact ⟨rfl, HB.out, HA.out⟩

theorem bnAnchor (bb : Nat) (s d a l : Int) (w : World) (h : BnAt w bb s d a l) :
    Calls Tryz.prog 67 #[.pointer (some ⟨bb, 0, none⟩)] w fun e w' => e = .returned (.int .i64 a) ∧ Below w.heap.size w w' := by
  have c := bn_cell (j := 2) h rfl
  clear h
  go_enter Tryz.func67, Tryz.ntmps67
  go_wp2
  go_ret
  exact ⟨rfl, Below.refl _ _⟩
theorem bnLast (bb : Nat) (s d a l : Int) (w : World) (h : BnAt w bb s d a l) :
    Calls Tryz.prog 68 #[.pointer (some ⟨bb, 0, none⟩)] w fun e w' => e = .returned (.int .i64 l) ∧ Below w.heap.size w w' := by
  have c := bn_cell (j := 3) h rfl
  clear h
  go_enter Tryz.func68, Tryz.ntmps68
  go_wp2
  go_ret
  exact ⟨rfl, Below.refl _ _⟩
end Go.Proofs.YtjdkagafdnchhaaGreatDoor

/-
  What Calm and Allows of package bands, and the document's, return, over this seat's translation, and what Trade and Fix change. Conditions stand in each theorem: where the bands, or the market, lie.
-/
namespace Go.Proofs.YtjdkagafdnchhaaGreatDoor
open Go.RowKit

/-- 5.1: does a price lie in the static band? -/
def calmB (s a p : Int) : Bool := inB (bandL a s) (bandH a s) p
/-- 5.1: in both? -/
def allowsB (s d a l p : Int) : Bool := calmB s a p && calmB d l p

set_option maxRecDepth 4000 in
set_option maxHeartbeats 4000000 in
theorem bnWithin1 (bb g : Nat) (s d a l p : Int) (w : World) (h : BnAt w bb s d a l) (hg : w.cell? ⟨g, 0, none⟩ = some (.int .i64 0)) :
    Calls Tryz.prog 147 #[.pointer (some ⟨bb, 0, none⟩), .int .i64 p, .slice (some ⟨g, 0, none⟩) 1 1] w fun e w' => e = .returned (.bool (calmB s a p)) ∧ Below w.heap.size w w' := by
  have HA : Hid (BnAt w bb s d a l) := h
  have HG : Hid (w.cell? ⟨g, 0, none⟩ = some (.int .i64 0)) := hg
  clear h hg
  go_enter Tryz.func147, Tryz.ntmps147
  go_wp2
  go_loopw [13] (fun v wr => ∃ k : Nat, k ≤ 1 ∧ v = .int .i64 k ∧ Below w.heap.size w wr ∧ (k = 1 → calmB s a p = true)) (fun v _ => 1 - (intOf v).toNat)
  case atStart => exact ⟨0, by omega, rfl, Below.refl _ _, fun h => absurd h (by decide)⟩
  case round =>
    obtain ⟨k, hk, rfl, hb, hq⟩ := hrel
    have HB : Hid (Below w.heap.size w wr) := hb
    have HQ : Hid (k = 1 → calmB s a p = true) := hq
    clear hb hq
    have hk01 : k = 0 ∨ k = 1 := by omega
    rcases hk01 with rfl | rfl
    · have c0 := (HB.out.cell (p := ⟨g, 0, none⟩) (World.block_lt_of_cell? w _ HG.out)).trans HG.out
      go_wp2_with fail
      refine (bnBand0 bb s d a l _ (HA.out.below HB.out)).mono ?_
      rintro e w1 ⟨rfl, hb1⟩
      have HB1 : Hid (Below w.heap.size w w1) := bn_then HB.out hb1
      clear hb1 c0
      cases hc : calmB s a p with
      | true =>
        obtain ⟨h1, h2⟩ := inB_true (lo := bandL a s) (hi := bandH a s) (z := p) hc
        have HC : Hid (calmB s a p = true) := hc
        clear hc
        go_wp2
        go_roundw
        case rel => exact ⟨1, by omega, rfl, HB1.out, fun _ => HC.out⟩
        case measure => simp [intOf]
      | false =>
        have h1 := inB_false (lo := bandL a s) (hi := bandH a s) (z := p) hc
        have HC : Hid (calmB s a p = false) := hc
        clear hc
        by_cases h2 : p < bandL a s
        · go_wp2
          go_ret
          exact ⟨by rw [HC.out]; rfl, HB1.out⟩
        · have h3 : bandH a s < p := by omega
          go_wp2
          go_ret
          exact ⟨by rw [HC.out]; rfl, HB1.out⟩
    · go_wp2
      go_ret
      exact ⟨by rw [HQ.out (by trivial)]; rfl, HB.out⟩

set_option maxRecDepth 4000 in
set_option maxHeartbeats 4000000 in
theorem bnWithin2 (bb g : Nat) (s d a l p : Int) (w : World) (h : BnAt w bb s d a l) (hg : w.cell? ⟨g, 0, none⟩ = some (.int .i64 0)) (hg1 : w.cell? ⟨g, 1, none⟩ = some (.int .i64 1)) :
    Calls Tryz.prog 147 #[.pointer (some ⟨bb, 0, none⟩), .int .i64 p, .slice (some ⟨g, 0, none⟩) 2 2] w fun e w' => e = .returned (.bool (allowsB s d a l p)) ∧ Below w.heap.size w w' := by
  have HA : Hid (BnAt w bb s d a l) := h
  have HG : Hid (w.cell? ⟨g, 0, none⟩ = some (.int .i64 0)) := hg
  have HG1 : Hid (w.cell? ⟨g, 1, none⟩ = some (.int .i64 1)) := hg1
  clear h hg hg1
  go_enter Tryz.func147, Tryz.ntmps147
  go_wp2
  go_loopw [13] (fun v wr => ∃ k : Nat, k ≤ 2 ∧ v = .int .i64 k ∧ Below w.heap.size w wr ∧ (1 ≤ k → calmB s a p = true) ∧ (k = 2 → calmB d l p = true)) (fun v _ => 2 - (intOf v).toNat)
  case atStart => exact ⟨0, by omega, rfl, Below.refl _ _, fun h => absurd h (by decide), fun h => absurd h (by decide)⟩
  case round =>
    obtain ⟨k, hk, rfl, hb, hq, hq2⟩ := hrel
    have HB : Hid (Below w.heap.size w wr) := hb
    have HQ : Hid (1 ≤ k → calmB s a p = true) := hq
    have HQ2 : Hid (k = 2 → calmB d l p = true) := hq2
    clear hb hq hq2
    have hk01 : k = 0 ∨ k = 1 ∨ k = 2 := by omega
    rcases hk01 with rfl | rfl | rfl
    · have c0 := (HB.out.cell (p := ⟨g, 0, none⟩) (World.block_lt_of_cell? w _ HG.out)).trans HG.out
      go_wp2_with fail
      refine (bnBand0 bb s d a l _ (HA.out.below HB.out)).mono ?_
      rintro e w1 ⟨rfl, hb1⟩
      have HB1 : Hid (Below w.heap.size w w1) := bn_then HB.out hb1
      clear hb1 c0
      cases hc : calmB s a p with
      | true =>
        obtain ⟨h1, h2⟩ := inB_true (lo := bandL a s) (hi := bandH a s) (z := p) hc
        have HC : Hid (calmB s a p = true) := hc
        clear hc
        go_wp2
        go_roundw
        case rel => exact ⟨1, by omega, rfl, HB1.out, fun _ => HC.out, fun h => absurd h (by decide)⟩
        case measure => simp [intOf]
      | false =>
        have h1 := inB_false (lo := bandL a s) (hi := bandH a s) (z := p) hc
        have HC : Hid (allowsB s d a l p = false) := by unfold allowsB; rw [hc]; rfl
        clear hc
        by_cases h2 : p < bandL a s
        · go_wp2
          go_ret
          exact ⟨by rw [HC.out]; rfl, HB1.out⟩
        · have h3 : bandH a s < p := by omega
          go_wp2
          go_ret
          exact ⟨by rw [HC.out]; rfl, HB1.out⟩
    · have c1 := (HB.out.cell (p := ⟨g, 1, none⟩) (World.block_lt_of_cell? w _ HG1.out)).trans HG1.out
      have HC0 : Hid (calmB s a p = true) := HQ.out (Nat.le_refl _)
      go_wp2_with fail
      refine (bnBand1 bb s d a l _ (HA.out.below HB.out)).mono ?_
      rintro e w1 ⟨rfl, hb1⟩
      have HB1 : Hid (Below w.heap.size w w1) := bn_then HB.out hb1
      clear hb1 c1
      cases hc : calmB d l p with
      | true =>
        obtain ⟨h1, h2⟩ := inB_true (lo := bandL l d) (hi := bandH l d) (z := p) hc
        have HC : Hid (calmB d l p = true) := hc
        clear hc
        go_wp2
        go_roundw
        case rel => exact ⟨2, by omega, rfl, HB1.out, fun _ => HC0.out, fun _ => HC.out⟩
        case measure => simp [intOf]
      | false =>
        have h1 := inB_false (lo := bandL l d) (hi := bandH l d) (z := p) hc
        have HC : Hid (allowsB s d a l p = false) := by unfold allowsB; rw [HC0.out, hc]; rfl
        clear hc
        by_cases h2 : p < bandL l d
        · go_wp2
          go_ret
          exact ⟨by rw [HC.out]; rfl, HB1.out⟩
        · have h3 : bandH l d < p := by omega
          go_wp2
          go_ret
          exact ⟨by rw [HC.out]; rfl, HB1.out⟩
    · have HC : Hid (allowsB s d a l p = true) := by unfold allowsB; rw [HQ.out (by decide), HQ2.out rfl]; rfl
      go_wp2
      go_ret
      exact ⟨by rw [HC.out]; rfl, HB.out⟩

theorem bnCalm (bb : Nat) (s d a l p : Int) (w : World) (h : BnAt w bb s d a l) :
    Calls Tryz.prog 109 #[.pointer (some ⟨bb, 0, none⟩), .int .i64 p] w fun e w' => e = .returned (.bool (calmB s a p)) ∧ Below w.heap.size w w' := by
  have HA : Hid (BnAt w bb s d a l) := h
  clear h
  go_enter Tryz.func109, Tryz.ntmps109
  go_wp2_with fail
  refine (bnWithin1 bb _ s d a l p _ (HA.out.below (bn_bel1 w _)) (by simp [go_sem])).mono ?_
  rintro e w' ⟨rfl, hb⟩
  have HB : Hid (Below w.heap.size w w') := bn_then (bn_bel1 w _) hb
  clear hb
  go_wp2
  go_ret
  exact ⟨rfl, HB.out⟩
theorem bnAllows (bb : Nat) (s d a l p : Int) (w : World) (h : BnAt w bb s d a l) :
    Calls Tryz.prog 95 #[.pointer (some ⟨bb, 0, none⟩), .int .i64 p] w fun e w' => e = .returned (.bool (allowsB s d a l p)) ∧ Below w.heap.size w w' := by
  have HA : Hid (BnAt w bb s d a l) := h
  clear h
  go_enter Tryz.func95, Tryz.ntmps95
  go_wp2_with fail
  refine (bnWithin2 bb _ s d a l p _ (HA.out.below (bn_bel1 w _)) (by simp [go_sem]) (by simp [go_sem])).mono ?_
  rintro e w' ⟨rfl, hb⟩
  have HB : Hid (Below w.heap.size w w') := bn_then (bn_bel1 w _) hb
  clear hb
  go_wp2
  go_ret
  exact ⟨rfl, HB.out⟩
end Go.Proofs.YtjdkagafdnchhaaGreatDoor
