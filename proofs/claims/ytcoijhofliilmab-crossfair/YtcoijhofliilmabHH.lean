/-
  Who trades with whom at an auction's price, as plain lists (8.1): lots of the willing, the best of both sides, and what stays true from trade to trade. No program is named here.
-/
import Derived.Test.YtcoijhofliilmabHG
import Derived.Lib.MinMax
import Derived.Maps.AppendAt
namespace Go.Proofs.Ytcoijhofliilmab
open Go.RowKit

/-- a trade -/
structure Fil where
  buyer : Int
  seller : Int
  price : Int
  qty : Int
def fV : List Fil → List Value
  | [] => []
  | x :: l => .int .i64 x.buyer :: .int .i64 x.seller :: .int .i64 x.price :: .int .i64 x.qty :: fV l
def Fil.none_ : Fil := ⟨0, 0, 0, 0⟩
def fAt (l : List Fil) (k : Nat) : Fil := l.getD k Fil.none_
theorem fV_length (l : List Fil) : (fV l).length = l.length * 4 := by
  induction l with
  | nil => rfl
  | cons o l ih => simp [fV, ih]; omega
theorem fV_append (a b : List Fil) : fV (a ++ b) = fV a ++ fV b := by
  induction a with
  | nil => rfl
  | cons o a ih => simp [fV, ih]
theorem fV_snoc (a : List Fil) (x : Fil) : fV (a ++ [x]) = fV a ++ [.int .i64 x.buyer, .int .i64 x.seller, .int .i64 x.price, .int .i64 x.qty] := by rw [fV_append]; rfl
theorem fV_at {l : List Fil} {k : Nat} (h : k < l.length) : (fV l)[k * 4]? = some (.int .i64 (fAt l k).buyer) ∧ (fV l)[k * 4 + 1]? = some (.int .i64 (fAt l k).seller) ∧ (fV l)[k * 4 + 2]? = some (.int .i64 (fAt l k).price) ∧ (fV l)[k * 4 + 3]? = some (.int .i64 (fAt l k).qty) := by
  induction l generalizing k with
  | nil => simp at h
  | cons o l ih =>
    cases k with
    | zero => exact ⟨rfl, rfl, rfl, rfl⟩
    | succ k =>
      have := ih (k := k) (by simpa using h)
      rw [show (k + 1) * 4 = k * 4 + 1 + 1 + 1 + 1 by omega]
      have e : fAt (o :: l) (k + 1) = fAt l k := by simp [fAt]
      rw [e]
      simpa [fV] using this

/-- orders that lie: each of a side, of its own number, with a price and lots that may be -/
structure LOk (L : List Ord) : Prop where
  side : ∀ o ∈ L, o.side = 1 ∨ o.side = 2
  ids : (L.map Ord.id).Nodup
  ok : ∀ o ∈ L, 1 ≤ o.price ∧ o.price ≤ 1000000 ∧ 1 ≤ o.qty ∧ o.qty ≤ 1000000
/-- n lots of one order less; with none left it goes -/
def lessF (id n : Int) (L : List Ord) : List Ord := (L.map (cutF id n)).filter fun o => decide (0 < o.qty)
theorem cutF_qty {id n : Int} {o : Ord} (h : o.id ≠ id) : cutF id n o = o := if_neg h
theorem cutF_hit (n : Int) (o : Ord) : cutF o.id n o = cutO n o := if_pos rfl
theorem lessF_out (id n : Int) : ∀ L : List Ord, (∀ o ∈ L, o.id = id → o.qty = n) → (∀ o ∈ L, 1 ≤ o.qty) → lessF id n L = L.filter (fun o => decide (o.id ≠ id))
  | [], _, _ => rfl
  | o :: L, h1, h2 => by
    have ih := lessF_out id n L (fun x hx => h1 x (List.mem_cons_of_mem _ hx)) (fun x hx => h2 x (List.mem_cons_of_mem _ hx))
    unfold lessF at ih ⊢
    have hq := h2 o (List.mem_cons_self ..)
    by_cases e : o.id = id
    · have hn := h1 o (List.mem_cons_self ..) e
      have hc : (cutF id n o).qty = 0 := by unfold cutF; rw [if_pos e]; show o.qty - n = 0; omega
      rw [List.map_cons, List.filter_cons_of_neg (by rw [hc]; decide), ih, List.filter_cons_of_neg (by simp [e])]
    · rw [List.map_cons, cutF_qty e, List.filter_cons_of_pos (by simpa using (show 0 < o.qty by omega)), ih, List.filter_cons_of_pos (by simpa using e)]
theorem lessF_stay (id n : Int) : ∀ L : List Ord, (∀ o ∈ L, o.id = id → n < o.qty) → (∀ o ∈ L, 1 ≤ o.qty) → lessF id n L = L.map (cutF id n)
  | [], _, _ => rfl
  | o :: L, h1, h2 => by
    have ih := lessF_stay id n L (fun x hx => h1 x (List.mem_cons_of_mem _ hx)) (fun x hx => h2 x (List.mem_cons_of_mem _ hx))
    unfold lessF at ih ⊢
    have hq := h2 o (List.mem_cons_self ..)
    have hp : 0 < (cutF id n o).qty := by
      by_cases e : o.id = id
      · have hn := h1 o (List.mem_cons_self ..) e
        unfold cutF; rw [if_pos e]; show 0 < o.qty - n; omega
      · rw [cutF_qty e]; omega
    rw [List.map_cons, List.filter_cons_of_pos (by simpa using hp), ih]
theorem idx_of {L : List Ord} (h : LOk L) {o : Ord} (ho : o ∈ L) : ∃ k : Nat, k < L.length ∧ idxO o.id L = k ∧ oAt L k = o := by
  rcases idxF_in o.id L 0 with h1 | ⟨k, hk, h1, h2⟩
  · have := idxF_some o.id L 0 ⟨o, ho, rfl⟩
    omega
  · exact ⟨k, hk, by show idxF o.id 0 L = k; rw [h1]; congr 1; omega, id_inj h.ids (oAt_in hk) ho h2⟩
theorem cut_is {L : List Ord} (h : LOk L) {o : Ord} (ho : o ∈ L) {n : Int} (hn : 1 ≤ n ∧ n ≤ o.qty) : cutM o.id n L = lessF o.id n L ∧ cutN o.id n L = 0 := by
  obtain ⟨k, hk, h1, h2⟩ := idx_of h ho
  have hne : ¬ idxO o.id L = -1 := by omega
  have hkk : (idxO o.id L).toNat = k := by omega
  have hd : ¬ (decide (1 ≤ n) && decide (n ≤ o.qty)) = false := by simp [hn.1, hn.2]
  have hone : ∀ x ∈ L, x.id = o.id → x = o := fun x hx e => id_inj h.ids hx ho e
  unfold cutM cutN
  rw [if_neg hne, if_neg hne, hkk, h2, if_neg hd, if_neg hd]
  refine ⟨?_, rfl⟩
  by_cases e : o.qty = n
  · rw [if_pos e, goneL_filter h.ids hk, h2, lessF_out o.id n L (fun x hx e' => by rw [hone x hx e']; exact e) (fun x hx => (h.ok x hx).2.2.1)]
  · rw [if_neg e]
    have := set_map n h.ids hk
    rw [h2] at this
    rw [this, lessF_stay o.id n L (fun x hx e' => by rw [hone x hx e']; omega) (fun x hx => (h.ok x hx).2.2.1)]
theorem less_mem {id n : Int} {L : List Ord} {x : Ord} (h : x ∈ lessF id n L) : ∃ y ∈ L, x = cutF id n y ∧ 0 < x.qty := by
  unfold lessF at h
  rw [List.mem_filter, List.mem_map] at h
  obtain ⟨⟨y, hy, rfl⟩, h2⟩ := h
  exact ⟨y, hy, rfl, by simpa using h2⟩
theorem cutF_le {id n : Int} {o : Ord} (hn : 0 ≤ n) : (cutF id n o).qty ≤ o.qty := by
  unfold cutF; split
  · show o.qty - n ≤ o.qty; omega
  · exact Int.le_refl _
theorem LOk.less {L : List Ord} (h : LOk L) (id : Int) {n : Int} (hn : 0 ≤ n) : LOk (lessF id n L) := by
  refine ⟨fun x hx => ?_, ?_, fun x hx => ?_⟩
  · obtain ⟨y, hy, rfl, _⟩ := less_mem hx
    rw [cutF_side]; exact h.side y hy
  · unfold lessF
    refine (List.Nodup.sublist ?_ h.ids)
    have e : (L.map (cutF id n)).map Ord.id = L.map Ord.id := by
      rw [List.map_map]
      exact List.map_congr_left (fun o _ => cutF_id id n o)
    rw [← e]
    exact (List.filter_sublist).map _
  · obtain ⟨y, hy, rfl, h2⟩ := less_mem hx
    have h3 := h.ok y hy
    have h4 := cutF_le (id := id) (o := y) hn
    rw [cutF_price]; omega
theorem side_less (s id n : Int) (L : List Ord) : sideO s (lessF id n L) = ((sideO s L).map (cutF id n)).filter fun o => decide (0 < o.qty) := by
  unfold lessF
  rw [sideO_filter, sideO_map s (cutF_side id n) (cutF_kind id n) (cutF_price id n)]
/-- who is not there loses nothing -/
theorem less_none {id n : Int} : ∀ {l : List Ord}, (∀ o ∈ l, o.id ≠ id) → (∀ o ∈ l, 1 ≤ o.qty) → (l.map (cutF id n)).filter (fun o => decide (0 < o.qty)) = l
  | [], _, _ => rfl
  | o :: l, h1, h2 => by
    have hq := h2 o (List.mem_cons_self ..)
    rw [List.map_cons, cutF_qty (h1 o (List.mem_cons_self ..)), List.filter_cons_of_pos (by simpa using (show 0 < o.qty by omega)), less_none (fun x hx => h1 x (List.mem_cons_of_mem _ hx)) (fun x hx => h2 x (List.mem_cons_of_mem _ hx))]
theorem side_ids {L : List Ord} (h : LOk L) (s : Int) : ((sideO s L).map Ord.id).Nodup := by
  have h1 : (onSide s L).Sublist L := List.filter_sublist
  have h2 := (h1.map Ord.id).nodup h.ids
  exact ((ssort_perm (rankO s) (onSide s L)).map Ord.id).nodup_iff.2 h2
/-- the best one has lots less, or goes; all others stay -/
theorem side_best {L : List Ord} (h : LOk L) {s n : Int} {x : Ord} {T : List Ord} (hs : sideO s L = x :: T) (hq : n ≤ x.qty) : sideO s (lessF x.id n L) = if x.qty = n then T else cutO n x :: T := by
  have hnd := side_ids h s
  rw [hs, List.map_cons, List.nodup_cons] at hnd
  have hT : ∀ o ∈ T, o.id ≠ x.id := fun o ho e => hnd.1 (List.mem_map.2 ⟨o, ho, e⟩)
  have hTq : ∀ o ∈ T, 1 ≤ o.qty := fun o ho => (h.ok o (sideO_mem.1 (show o ∈ sideO s L by rw [hs]; exact List.mem_cons_of_mem _ ho)).1).2.2.1
  rw [side_less, hs, List.map_cons, cutF_hit]
  by_cases e : x.qty = n
  · rw [if_pos e, List.filter_cons_of_neg (by show ¬ decide (0 < x.qty - n) = true; simp; omega), less_none hT hTq]
  · rw [if_neg e, List.filter_cons_of_pos (by show decide (0 < x.qty - n) = true; simp; omega), less_none hT hTq]
theorem side_other {L : List Ord} (h : LOk L) {s t n : Int} {x : Ord} (hx : x ∈ sideO s L) (hne : t ≠ s) : sideO t (lessF x.id n L) = sideO t L := by
  obtain ⟨hxL, hxs⟩ := sideO_mem.1 hx
  rw [side_less]
  refine less_none (fun o ho e => ?_) (fun o ho => (h.ok o (sideO_mem.1 ho).1).2.2.1)
  obtain ⟨hoL, hos⟩ := sideO_mem.1 ho
  have := id_inj h.ids hoL hxL e
  rw [this, hxs] at hos
  exact hne hos.symm

/-- 8.1: is an order willing at a price? -/
def wilB (s p : Int) (o : Ord) : Bool := (o.kind == 2) || (((s == 1) && decide (p ≤ o.price)) || ((s == 2) && decide (o.price ≤ p)))
def wilL (s p : Int) (L : List Ord) : Int := (L.map fun o => if (o.side == s && wilB s p o) = true then o.qty else 0).sum
theorem wilL_cons (s p : Int) (o : Ord) (L : List Ord) : wilL s p (o :: L) = (if (o.side == s && wilB s p o) = true then o.qty else 0) + wilL s p L := by simp [wilL]
theorem wilL_in (s p : Int) : ∀ {L : List Ord}, LOk L → 0 ≤ wilL s p L ∧ wilL s p L ≤ 1000000 * (L.length : Int)
  | [], _ => by simp [wilL]
  | o :: L, h => by
    have h' : LOk L := ⟨fun x hx => h.side x (List.mem_cons_of_mem _ hx), (List.nodup_cons.1 h.ids).2, fun x hx => h.ok x (List.mem_cons_of_mem _ hx)⟩
    have ih := wilL_in s p h'
    have ho := h.ok o (List.mem_cons_self ..)
    rw [wilL_cons, List.length_cons]
    split <;> omega
theorem wil_some {s p : Int} : ∀ {L : List Ord}, (∀ o ∈ L, 1 ≤ o.qty) → 0 < wilL s p L → ∃ o ∈ L, o.side = s ∧ wilB s p o = true
  | [], _, h => by simp [wilL] at h
  | o :: L, hq, h => by
    rw [wilL_cons] at h
    by_cases e : (o.side == s && wilB s p o) = true
    · rw [Bool.and_eq_true, beq_iff_eq] at e
      exact ⟨o, List.mem_cons_self .., e.1, e.2⟩
    · rw [if_neg e] at h
      obtain ⟨x, hx, h1⟩ := wil_some (fun y hy => hq y (List.mem_cons_of_mem _ hy)) (show 0 < wilL s p L by omega)
      exact ⟨x, List.mem_cons_of_mem _ hx, h1⟩
theorem wil_less {s p id n : Int} : ∀ {L : List Ord}, (L.map Ord.id).Nodup → (∀ o ∈ L, 1 ≤ o.qty) → (∀ o ∈ L, o.id = id → n ≤ o.qty) → wilL s p (lessF id n L) = wilL s p L - (if ∃ o ∈ L, o.id = id ∧ (o.side == s && wilB s p o) = true then n else 0)
  | [], _, _, _ => by simp [wilL, lessF]
  | o :: L, hd, hq, hn => by
    rw [List.map_cons, List.nodup_cons] at hd
    have ih := wil_less (s := s) (p := p) (id := id) (n := n) hd.2 (fun x hx => hq x (List.mem_cons_of_mem _ hx)) (fun x hx => hn x (List.mem_cons_of_mem _ hx))
    have hqo := hq o (List.mem_cons_self ..)
    have hw : ∀ (q : Int), (({ o with qty := q } : Ord).side == s && wilB s p { o with qty := q }) = (o.side == s && wilB s p o) := fun q => rfl
    by_cases e : o.id = id
    · have hno : ¬ ∃ x ∈ L, x.id = id ∧ (x.side == s && wilB s p x) = true := fun ⟨x, hx, h1, _⟩ => hd.1 (List.mem_map.2 ⟨x, hx, by rw [h1, e]⟩)
      rw [if_neg hno] at ih
      have hqn := hn o (List.mem_cons_self ..) e
      have hc : cutF id n o = { o with qty := o.qty - n } := by unfold cutF; rw [if_pos e]; rfl
      have hL : lessF id n (o :: L) = if 0 < o.qty - n then { o with qty := o.qty - n } :: lessF id n L else lessF id n L := by
        unfold lessF
        rw [List.map_cons, hc, List.filter_cons]
        simp
      by_cases hwo : (o.side == s && wilB s p o) = true
      · have hex : ∃ x ∈ o :: L, x.id = id ∧ (x.side == s && wilB s p x) = true := ⟨o, List.mem_cons_self .., e, hwo⟩
        have e1 : wilL s p (o :: L) = o.qty + wilL s p L := by rw [wilL_cons, if_pos hwo]
        rw [hL, e1, if_pos hex]
        by_cases hp : 0 < o.qty - n
        · have e2 : wilL s p ({ o with qty := o.qty - n } :: lessF id n L) = (o.qty - n) + wilL s p (lessF id n L) := by rw [wilL_cons, hw, if_pos hwo]
          rw [if_pos hp, e2, ih]; omega
        · rw [if_neg hp, ih]; omega
      · have hno2 : ¬ ∃ x ∈ o :: L, x.id = id ∧ (x.side == s && wilB s p x) = true := fun ⟨x, hx, h1, h2⟩ => by
          rw [List.mem_cons] at hx
          rcases hx with rfl | hx
          · exact hwo h2
          · exact hno ⟨x, hx, h1, h2⟩
        have e1 : wilL s p (o :: L) = 0 + wilL s p L := by rw [wilL_cons, if_neg hwo]
        rw [hL, e1, if_neg hno2]
        by_cases hp : 0 < o.qty - n
        · have e2 : wilL s p ({ o with qty := o.qty - n } :: lessF id n L) = 0 + wilL s p (lessF id n L) := by rw [wilL_cons, hw, if_neg hwo]
          rw [if_pos hp, e2, ih]; omega
        · rw [if_neg hp, ih]; omega
    · have hL : lessF id n (o :: L) = o :: lessF id n L := by
        unfold lessF
        rw [List.map_cons, cutF_qty e, List.filter_cons_of_pos (by simpa using (show 0 < o.qty by omega))]
      have hiff : (∃ x ∈ o :: L, x.id = id ∧ (x.side == s && wilB s p x) = true) ↔ ∃ x ∈ L, x.id = id ∧ (x.side == s && wilB s p x) = true := by
        constructor
        · rintro ⟨x, hx, h1, h2⟩
          rw [List.mem_cons] at hx
          rcases hx with rfl | hx
          · exact absurd h1 e
          · exact ⟨x, hx, h1, h2⟩
        · rintro ⟨x, hx, h1, h2⟩; exact ⟨x, List.mem_cons_of_mem _ hx, h1, h2⟩
      rw [hL, wilL_cons, wilL_cons, ih]
      simp only [hiff]
      omega
/-- where somebody is willing, the best one is -/
theorem best_wil {L : List Ord} (h : LOk L) {s p : Int} (hs : s = 1 ∨ s = 2) (hw : 0 < wilL s p L) : ∃ x T, sideO s L = x :: T ∧ x ∈ L ∧ x.side = s ∧ wilB s p x = true := by
  obtain ⟨o, ho, h1, h2⟩ := wil_some (fun y hy => (h.ok y hy).2.2.1) hw
  have hm : o ∈ sideO s L := sideO_mem.2 ⟨ho, h1⟩
  match hS : sideO s L with
  | [] => rw [hS] at hm; cases hm
  | x :: T =>
    have hx : x ∈ sideO s L := by rw [hS]; exact List.mem_cons_self ..
    obtain ⟨hxL, hxs⟩ := sideO_mem.1 hx
    refine ⟨x, T, rfl, hxL, hxs, ?_⟩
    have hr : rankO s x ≤ rankO s o := by
      have hsrt := ssort_srt (rank := rankO s) (onSide s L)
      rw [show ssort (rankO s) (onSide s L) = x :: T from hS, List.pairwise_cons] at hsrt
      rw [hS, List.mem_cons] at hm
      rcases hm with rfl | hm
      · exact Int.le_refl _
      · exact hsrt.1 o hm
    have px := h.ok x hxL
    have po := h.ok o ho
    unfold rankO rankI at hr
    unfold wilB at h2 ⊢
    by_cases kx : x.kind = 2
    · rw [kx]; rfl
    · rw [if_neg kx] at hr
      by_cases ko : o.kind = 2
      · rw [if_pos ko] at hr
        split at hr <;> omega
      · rw [if_neg ko] at hr
        have kob : (o.kind == 2) = false := beq_eq_false_iff_ne.2 ko
        have kxb : (x.kind == 2) = false := beq_eq_false_iff_ne.2 kx
        rw [kob, Bool.false_or] at h2
        rw [kxb, Bool.false_or]
        rcases hs with rfl | rfl
        · rw [if_pos rfl, if_pos rfl] at hr
          simp at h2 ⊢; omega
        · rw [if_neg (by decide), if_neg (by decide)] at hr
          simp at h2 ⊢; omega

/-- trades so far, the orders that lie, the lots that are left -/
structure FS where
  fs : List Fil
  L : List Ord
  q : Int
def bestO (s : Int) (L : List Ord) : Ord := oAt (sideO s L) 0
def lotN (s : FS) : Int := min s.q (min (bestO 1 s.L).qty (bestO 2 s.L).qty)
def fstep (p : Int) (s : FS) : FS := ⟨s.fs ++ [⟨(bestO 1 s.L).id, (bestO 2 s.L).id, p, lotN s⟩], cutM (bestO 2 s.L).id (lotN s) (cutM (bestO 1 s.L).id (lotN s) s.L), s.q - lotN s⟩
def fiter (p : Int) (s : FS) : Nat → FS
  | 0 => s
  | k + 1 => fstep p (fiter p s k)
structure FOk (p : Int) (s : FS) : Prop where
  ok : LOk s.L
  nn : 0 ≤ s.q
  buy : s.q ≤ wilL 1 p s.L
  sell : s.q ≤ wilL 2 p s.L
/-- one trade more -/
theorem fstep_ok {p : Int} {s : FS} (h : FOk p s) (hq : 0 < s.q) :
    (∃ x T y U, sideO 1 s.L = x :: T ∧ sideO 2 s.L = y :: U ∧ bestO 1 s.L = x ∧ bestO 2 s.L = y ∧ x ∈ s.L ∧ y ∈ s.L ∧ y ∈ lessF x.id (lotN s) s.L ∧ 1 ≤ lotN s ∧ lotN s ≤ s.q ∧ lotN s ≤ x.qty ∧ lotN s ≤ y.qty ∧ cutM x.id (lotN s) s.L = lessF x.id (lotN s) s.L ∧ (fstep p s).L = lessF y.id (lotN s) (lessF x.id (lotN s) s.L)
      ∧ cutN x.id (lotN s) s.L = 0 ∧ cutN y.id (lotN s) (lessF x.id (lotN s) s.L) = 0 ∧ LOk (lessF x.id (lotN s) s.L)) ∧ FOk p (fstep p s) := by
  obtain ⟨hok, _, hb, hs⟩ := h
  obtain ⟨x, T, hS1, hxL, hxs, hxw⟩ := best_wil hok (s := 1) (p := p) (Or.inl rfl) (by omega)
  obtain ⟨y, U, hS2, hyL, hys, hyw⟩ := best_wil hok (s := 2) (p := p) (Or.inr rfl) (by omega)
  have hbx : bestO 1 s.L = x := by unfold bestO; rw [hS1]; rfl
  have hby : bestO 2 s.L = y := by unfold bestO; rw [hS2]; rfl
  have px := hok.ok x hxL
  have py := hok.ok y hyL
  have hn : lotN s = min s.q (min x.qty y.qty) := by unfold lotN; rw [hbx, hby]
  obtain ⟨n, hnn⟩ : ∃ n, lotN s = n := ⟨_, rfl⟩
  have n1 : 1 ≤ n ∧ n ≤ s.q ∧ n ≤ x.qty ∧ n ≤ y.qty := by omega
  obtain ⟨c1, c2⟩ := cut_is hok hxL (n := n) (by omega)
  have ok1 := hok.less x.id (n := n) (by omega)
  have hy1 : y ∈ lessF x.id n s.L := by
    have : y ∈ sideO 2 (lessF x.id n s.L) := by
      rw [side_other hok (s := 1) (t := 2) (x := x) (by rw [hS1]; exact List.mem_cons_self ..) (by decide), hS2]
      exact List.mem_cons_self ..
    exact (sideO_mem.1 this).1
  obtain ⟨c3, c4⟩ := cut_is ok1 hy1 (n := n) (by omega)
  have ok2 := ok1.less y.id (n := n) (by omega)
  have hL : (fstep p s).L = lessF y.id n (lessF x.id n s.L) := by
    show cutM (bestO 2 s.L).id (lotN s) (cutM (bestO 1 s.L).id (lotN s) s.L) = _
    rw [hbx, hby, hnn, c1, c3]
  have hq' : (fstep p s).q = s.q - n := by show s.q - lotN s = _; rw [hnn]
  have one : ∀ {L : List Ord}, LOk L → ∀ {z : Ord}, z ∈ L → n ≤ z.qty → ∀ t, wilL t p (lessF z.id n L) = wilL t p L - (if (z.side == t && wilB t p z) = true then n else 0) := fun {L} hL {z} hz hzq t => by
    rw [wil_less hL.ids (fun o ho => (hL.ok o ho).2.2.1) (fun o ho e => by rw [id_inj hL.ids ho hz e]; exact hzq)]
    congr 1
    by_cases hw : (z.side == t && wilB t p z) = true
    · rw [if_pos hw, if_pos ⟨z, hz, rfl, hw⟩]
    · rw [if_neg hw, if_neg]
      rintro ⟨o, ho, e, h2⟩
      rw [id_inj hL.ids ho hz e] at h2
      exact hw h2
  have w1 := one hok hxL n1.2.2.1 1
  have w2 := one hok hxL n1.2.2.1 2
  have w3 := one ok1 hy1 n1.2.2.2 1
  have w4 := one ok1 hy1 n1.2.2.2 2
  rw [if_pos (by rw [hxs, hxw]; rfl)] at w1
  rw [if_neg (by rw [hxs]; simp)] at w2
  rw [if_neg (by rw [hys]; simp)] at w3
  rw [if_pos (by rw [hys, hyw]; rfl)] at w4
  rw [hnn]
  refine ⟨⟨x, T, y, U, hS1, hS2, hbx, hby, hxL, hyL, hy1, n1.1, n1.2.1, n1.2.2.1, n1.2.2.2, c1, hL, c2, c4, ok1⟩, ?_⟩
  refine ⟨by rw [hL]; exact ok2, by rw [hq']; omega, ?_, ?_⟩
  · rw [hL, hq', w3, w1]; omega
  · rw [hL, hq', w4, w2]; omega
theorem fiter_ok {p : Int} {s : FS} (h : FOk p s) : ∀ k, (∀ j, j < k → 0 < (fiter p s j).q) → FOk p (fiter p s k)
  | 0, _ => h
  | k + 1, hq => (fstep_ok (fiter_ok h k (fun j hj => hq j (by omega))) (hq k (by omega))).2
end Go.Proofs.Ytcoijhofliilmab

/-
  What the program's small functions of chapter 8 return (willing, lying, lots, between, other), over this seat's translation. Conditions stand in each theorem.
-/
namespace Go.Proofs.Ytcoijhofliilmab
open Go.RowKit

/-- 8.1, as the program asks it: is an order willing at a price? -/
def wilP (p : Int) (o : Ord) : Bool := if (o.kind == 2) = true then true else if (o.side == 1) = true then decide (p ≤ o.price) else decide (o.price ≤ p)
theorem wilP_is {s p : Int} {o : Ord} (hs : s = 1 ∨ s = 2) (ho : o.side = s) : wilP p o = wilB s p o := by
  unfold wilP wilB
  rw [ho]
  rcases hs with rfl | rfl
  · by_cases h : (o.kind == 2) = true
    · rw [if_pos h, h]; rfl
    · rw [if_neg h, show (o.kind == 2) = false from Bool.eq_false_iff.2 h]; simp
  · by_cases h : (o.kind == 2) = true
    · rw [if_pos h, h]; rfl
    · rw [if_neg h, show (o.kind == 2) = false from Bool.eq_false_iff.2 h]; simp

set_option maxHeartbeats 1000000 in
theorem cpWilling (p : Int) (w : World) : Calls Try.prog 41 #[.int .i64 p] w fun e w' => e = .returned (.func (.func 61) #[] #[.pointer (some ⟨w.heap.size, 0, none⟩)]) ∧ w' = w.alloc (.cells #[.int .i64 p] 3) := by
  go_enter Try.func41, Try.ntmps41
  go_wp2
  go_ret
  exact ⟨rfl, rfl⟩

set_option maxRecDepth 4000 in
set_option maxHeartbeats 1000000 in
theorem cpWil (p : Int) (o : Ord) (b : Nat) (w : World) (h : w.heap[b]? = some (.cells #[.int .i64 p] 3 (0, 0))) :
    Calls Try.prog 61 #[.agg #[.int .i64 o.id, .int .i64 o.side, .int .i64 o.kind, .int .i64 o.price, .int .i64 o.qty], .pointer (some ⟨b, 0, none⟩)] w fun e w' => e = .returned (.bool (wilP p o)) ∧ Below w.heap.size w w' := by
  have hb := bel1 w (.cells #[.int .i64 o.id, .int .i64 o.side, .int .i64 o.kind, .int .i64 o.price, .int .i64 o.qty] 40)
  have c0 := blk_cell (j := 0) (blk_below h hb (Nat.le_refl _)) rfl
  have HB : Hid _ := hb
  clear h hb
  unfold wilP
  cases hk : (o.kind == 2) with
  | true =>
    go_enter Try.func61, Try.ntmps61
    go_wp2
    go_ret
    exact ⟨rfl, HB.out⟩
  | false =>
    cases hs : (o.side == 1) with
    | true =>
      go_enter Try.func61, Try.ntmps61
      go_wp2
      go_ret
      exact ⟨rfl, HB.out⟩
    | false =>
      go_enter Try.func61, Try.ntmps61
      go_wp2
      go_ret
      exact ⟨rfl, HB.out⟩

set_option maxHeartbeats 1000000 in
/-- the orders of a side -/
theorem cpLying (bb m s : Nat) (b : BkS) (L : List Ord) (w : World) (h : Bk w bb m b) (hl : Lnk b.S L) (hs : s < 2) (side : Int) (hsd : side = (s : Int) + 1) :
    Calls Try.prog 62 #[.pointer (some ⟨bb, 0, none⟩), .int .i64 side] w fun e w' => ∃ v, e = .returned v ∧ w'.ownsRow w.heap.size 40 5 v (sideO side L).length (oV (sideO side L)) ∧ Below w.heap.size w w' := by
  have H : Hid (Bk w bb m b) := h
  have e1 : (b.S s).map Ly.o = sideO side L := by rw [hsd]; exact hl.side s hs
  have HE : Hid ((b.S s).map Ly.o = sideO side L) := e1
  have HSD : Hid (side = (s : Int) + 1) := hsd
  clear h e1 hl hsd
  go_enter Try.func62, Try.ntmps62
  go_wp2_with fail
  refine (pbSideOf bb m s b w H.out hs side HSD.out).mono ?_
  rintro e w1 ⟨v, rfl, h1, h2⟩
  rw [HE.out, show (b.S s).length = (sideO side L).length by rw [← HE.out, List.length_map]] at h1
  have H1 : Hid _ := h1
  have H2 : Hid _ := h2
  clear h1 h2
  go_wp2_with fail
  go_ret
  exact ⟨v, rfl, H1.out, H2.out⟩

end Go.Proofs.Ytcoijhofliilmab

/-
  What the program's between and lots (8.1) return, over this seat's translation. Conditions stand in each theorem.
-/
namespace Go.Proofs.Ytcoijhofliilmab
open Go.RowKit

set_option maxRecDepth 4000 in
set_option maxHeartbeats 2000000 in
theorem cpBetween1 (o x : Ord) (p : Int) (w : World) (hs : (o.side == 2) = false) :
    Calls Try.prog 44 #[.agg #[.int .i64 o.id, .int .i64 o.side, .int .i64 o.kind, .int .i64 o.price, .int .i64 o.qty], .agg #[.int .i64 x.id, .int .i64 x.side, .int .i64 x.kind, .int .i64 x.price, .int .i64 x.qty], .int .i64 p] w
      fun e w' => e = .returned (.agg #[.int .i64 o.id, .int .i64 x.id, .int .i64 p, .int .i64 (min o.qty x.qty)]) ∧ Below w.heap.size w w' := by
  have HS : Hid ((o.side == 2) = false) := hs
  go_enter Try.func44, Try.ntmps44
  go_wp2_with fail
  refine bodyPost_ret (by simp [results, Try.results44, go_sem]; try rfl) rfl ?_
  refine ⟨rfl, ?_⟩
  (repeat' first | assumption | exact Below.refl _ _ | exact Nat.le_refl _ | refine Below.alloc ?_ ?_ _ | refine Below.setCell ?_ ?_ _ | (simp; done) | (simp; omega))

set_option maxRecDepth 4000 in
set_option maxHeartbeats 4000000 in
theorem cpBetween2 (o x : Ord) (p : Int) (w : World) (hs : (o.side == 2) = true) :
    Calls Try.prog 44 #[.agg #[.int .i64 o.id, .int .i64 o.side, .int .i64 o.kind, .int .i64 o.price, .int .i64 o.qty], .agg #[.int .i64 x.id, .int .i64 x.side, .int .i64 x.kind, .int .i64 x.price, .int .i64 x.qty], .int .i64 p] w
      fun e w' => e = .returned (.agg #[.int .i64 x.id, .int .i64 o.id, .int .i64 p, .int .i64 (min x.qty o.qty)]) ∧ Below w.heap.size w w' := by
  have HS : Hid ((o.side == 2) = true) := hs
  go_enter Try.func44, Try.ntmps44
  go_wp2_with fail
  refine bodyPost_ret (by simp [results, Try.results44, go_sem]; try rfl) rfl ?_
  refine ⟨rfl, ?_⟩
  (repeat' first | assumption | exact Below.refl _ _ | exact Nat.le_refl _ | refine Below.alloc ?_ ?_ _ | refine Below.setCell ?_ ?_ _ | (simp; done) | (simp; omega))

def lotsP (p : Int) (X : List Ord) : Int := (X.map fun o => if wilP p o = true then o.qty else 0).sum
theorem lotsP_take {X : List Ord} {k : Nat} (p : Int) (h : k < X.length) : lotsP p (X.take (k + 1)) = lotsP p (X.take k) + (if wilP p (oAt X k) = true then (oAt X k).qty else 0) := by
  unfold lotsP
  rw [List.take_succ_eq_append_getElem h, List.map_append, List.sum_append, ← oAt_eq h]
  simp
theorem sum_perm {f : Ord → Int} {a b : List Ord} (h : a.Perm b) : (a.map f).sum = (b.map f).sum := by
  induction h with
  | nil => rfl
  | cons x _ ih => simp [ih]
  | swap x y l => simp; omega
  | trans _ _ i1 i2 => exact i1.trans i2
theorem lotsP_on (s p : Int) (hs : s = 1 ∨ s = 2) : ∀ L : List Ord, lotsP p (onSide s L) = wilL s p L
  | [] => rfl
  | o :: L => by
    have ih := lotsP_on s p hs L
    rw [wilL_cons, ← ih]
    unfold onSide
    by_cases h : (o.side == s) = true
    · have e : (o :: L).filter (fun o => o.side == s) = o :: L.filter (fun o => o.side == s) := List.filter_cons_of_pos (by exact h)
      rw [e, h, Bool.true_and, ← wilP_is hs (beq_iff_eq.1 h)]
      rfl
    · have e : (o :: L).filter (fun o => o.side == s) = L.filter (fun o => o.side == s) := List.filter_cons_of_neg (by exact h)
      rw [e, if_neg (by rw [show (o.side == s) = false from Bool.eq_false_iff.2 h]; simp)]
      omega
theorem lotsP_is {s p : Int} (hs : s = 1 ∨ s = 2) (L : List Ord) : lotsP p (sideO s L) = wilL s p L := by
  rw [← lotsP_on s p hs L]
  exact sum_perm (ssort_perm _ _)
theorem lotsP_in {p : Int} {X : List Ord} (h : ∀ o ∈ X, 1 ≤ o.qty ∧ o.qty ≤ 1000000) : ∀ k, k ≤ X.length → 0 ≤ lotsP p (X.take k) ∧ lotsP p (X.take k) ≤ 1000000 * (k : Int)
  | 0, _ => by simp [lotsP]
  | k + 1, hk => by
    have ih := lotsP_in (p := p) h k (by omega)
    have hx := h (oAt X k) (oAt_in (by omega))
    rw [lotsP_take p (by omega)]
    split <;> omega

set_option maxRecDepth 4000 in
set_option maxHeartbeats 4000000 in
theorem cpLots (bb m s : Nat) (b : BkS) (L : List Ord) (p : Int) (pb : Nat) (w : World) (h : Bk w bb m b) (hl : Lnk b.S L) (hok : LOk L) (hs : s < 2) (side : Int) (hsd : side = (s : Int) + 1) (hp : w.heap[pb]? = some (.cells #[.int .i64 p] 3 (0, 0))) :
    Calls Try.prog 42 #[.pointer (some ⟨bb, 0, none⟩), .int .i64 side, .func (.func 61) #[] #[.pointer (some ⟨pb, 0, none⟩)]] w fun e w' => e = .returned (.int .i64 (wilL side p L)) ∧ Below w.heap.size w w' := by
  have H : Hid (Bk w bb m b) := h
  have HL : Hid (Lnk b.S L) := hl
  have HP : Hid (w.heap[pb]? = some (.cells #[.int .i64 p] 3 (0, 0))) := hp
  have HQ : Hid (∀ o ∈ sideO side L, 1 ≤ o.qty ∧ o.qty ≤ 1000000) := fun o ho => (hok.ok o (sideO_mem.1 ho).1).2.2
  have hlen : (sideO side L).length ≤ 100 := Nat.le_trans (sideO_len _ _) (lnk_few h.ok hl)
  have HW : Hid (lotsP p (sideO side L) = wilL side p L) := lotsP_is (by omega) L
  have HSD : Hid (side = (s : Int) + 1) := hsd
  clear h hl hp hok hsd
  go_enter Try.func42, Try.ntmps42
  go_wp2_with fail
  refine (cpLying bb m s b L w H.out HL.out hs side HSD.out).mono ?_
  rintro e w1 ⟨v, rfl, h1, h2⟩
  obtain ⟨xa, xc, rfl, _, _⟩ := owns_shape h1
  have HR : Hid _ := h1
  have HB : Hid (Below w.heap.size w w1) := h2
  have HP1 : Hid (w1.heap[pb]? = some (.cells #[.int .i64 p] 3 (0, 0))) := blk_below HP.out h2 (Nat.le_refl _)
  clear h1 h2 HL H HP
  generalize sideO side L = X at *
  go_wp2_with fail
  go_loopw [7, 9, 14] (fun u7 _ u14 wr => ∃ k : Nat, k ≤ X.length ∧ u14 = .int .i64 k ∧ u7 = .int .i64 (lotsP p (X.take k)) ∧ Below w1.heap.size w1 wr) (fun _ _ u14 _ => X.length - (intOf u14).toNat)
  case atStart => exact ⟨0, Nat.zero_le _, rfl, rfl, Below.refl _ _⟩
  case round =>
    obtain ⟨k, hk, rfl, rfl, hb⟩ := hrel
    have HBR : Hid (Below w1.heap.size w1 wr) := hb
    by_cases hk1 : k < X.length
    · have hlt : (k : Int) < (X.length : Int) := by omega
      obtain ⟨g, cap, e, d0, d1, d2, d3, d4⟩ := row_order (owns_below HR.out hb (Nat.le_refl _)) hk1
      injection e with e1 _ e2
      subst e1 e2
      have hin := lotsP_in (p := p) HQ.out k hk
      have HT : Hid (lotsP p (X.take (k + 1)) = lotsP p (X.take k) + (if wilP p (oAt X k) = true then (oAt X k).qty else 0)) := lotsP_take p hk1
      have hq := HQ.out (oAt X k) (oAt_in hk1)
      generalize oAt X k = x at d0 d1 d2 d3 d4 HT hq
      generalize lotsP p (X.take k) = n at *
      clear hb
      go_wp2_with fail
      have hbA := bel1 wr (.cells #[.int .i64 x.id, .int .i64 x.side, .int .i64 x.kind, .int .i64 x.price, .int .i64 x.qty] 40)
      have hxA := heap_alloc_new wr (.cells #[.int .i64 x.id, .int .i64 x.side, .int .i64 x.kind, .int .i64 x.price, .int .i64 x.qty] 40)
      generalize wr.alloc (.cells #[.int .i64 x.id, .int .i64 x.side, .int .i64 x.kind, .int .i64 x.price, .int .i64 x.qty] 40) = W at hbA hxA ⊢
      have HBW : Hid (Below w1.heap.size w1 W) := bel_then HBR.out hbA
      refine (cpWil p x pb W (blk_below HP1.out HBW.out (Nat.le_refl _))).mono ?_
      rintro e w4 ⟨rfl, hb4⟩
      have x4 := blk_cell (j := 4) (blk_below hxA hb4 (Nat.le_refl _)) rfl
      have HB4 : Hid (Below w1.heap.size w1 w4) := bel_then HBW.out hb4
      clear hbA hxA hb4 d0 d1 d2 d3 d4
      cases hw : wilP p x with
      | true =>
        have HT2 : Hid (lotsP p (X.take (k + 1)) = n + x.qty) := by have := HT.out; rw [hw, if_pos rfl] at this; exact this
        go_wp2_with fail
        go_roundw
        case rel => exact ⟨k + 1, hk1, by go_num, by rw [HT2.out], HB4.out⟩
        case measure => simp [RowKit.intOf]; omega
      | false =>
        have HT2 : Hid (lotsP p (X.take (k + 1)) = n) := by have := HT.out; rw [hw, if_neg (by decide)] at this; rw [this]; exact Int.add_zero _
        go_wp2_with fail
        go_roundw
        case rel => exact ⟨k + 1, hk1, by go_num, by rw [HT2.out], HB4.out⟩
        case measure => simp [RowKit.intOf]; omega
    · have hkx : k = X.length := by omega
      have HT2 : Hid (lotsP p (X.take k) = lotsP p X) := by show _ = _; rw [List.take_of_length_le (by omega)]
      generalize lotsP p (X.take k) = n at *
      clear hb
      go_wp2_with fail
      go_ret
      exact ⟨by rw [HT2.out, HW.out]; rfl, bel_then HB.out HBR.out⟩
end Go.Proofs.Ytcoijhofliilmab

/-
  How many trades there are at an auction's price (8.1): never more than orders lie. No program is named here.
-/
namespace Go.Proofs.Ytcoijhofliilmab
open Go.RowKit

theorem less_le (id n : Int) (L : List Ord) : (lessF id n L).length ≤ L.length := by
  unfold lessF
  exact Nat.le_trans (List.length_filter_le _ _) (by rw [List.length_map]; exact Nat.le_refl _)
theorem less_lt {L : List Ord} {x : Ord} (hx : x ∈ L) : (lessF x.id x.qty L).length < L.length := by
  have h : ((L.map (cutF x.id x.qty)).filter fun o => decide (0 < o.qty)).length < (L.map (cutF x.id x.qty)).length := by
    refine List.length_filter_lt_length_iff_exists.2 ⟨cutF x.id x.qty x, List.mem_map_of_mem hx, ?_⟩
    rw [cutF_hit]
    show ¬ decide (0 < x.qty - x.qty) = true
    simp
  rw [List.length_map] at h
  exact h
/-- as long as lots are left behind a trade, one order less lies -/
theorem fstep_few {p : Int} {s : FS} (h : FOk p s) (hq : 0 < s.q) (hq2 : 0 < (fstep p s).q) : (fstep p s).L.length < s.L.length := by
  obtain ⟨⟨x, T, y, U, _, _, hbx, hby, hxL, _, hy1, _, _, n3, n4, _, hL2, _, _, _⟩, _⟩ := fstep_ok h hq
  have e1 : lotN s = min s.q (min x.qty y.qty) := by unfold lotN; rw [hbx, hby]
  have e2 : (fstep p s).q = s.q - lotN s := rfl
  rw [hL2]
  have hc : lotN s = x.qty ∨ lotN s = y.qty := by omega
  rcases hc with hc | hc
  · rw [hc]; exact Nat.lt_of_le_of_lt (less_le _ _ _) (less_lt hxL)
  · rw [hc] at hy1 ⊢; exact Nat.lt_of_lt_of_le (less_lt hy1) (less_le _ _ _)
theorem fiter_few {p : Int} {s : FS} (h : FOk p s) : ∀ k, (∀ j, j < k + 1 → 0 < (fiter p s j).q) → k + (fiter p s k).L.length ≤ s.L.length
  | 0, _ => by show 0 + s.L.length ≤ s.L.length; omega
  | k + 1, hq => by
    have ih := fiter_few h k (fun j hj => hq j (by omega))
    have h1 := fstep_few (fiter_ok h k (fun j hj => hq j (by omega))) (hq k (by omega)) (hq (k + 1) (by omega))
    have e : fiter p s (k + 1) = fstep p (fiter p s k) := rfl
    rw [e]; omega
end Go.Proofs.Ytcoijhofliilmab

/-
  What the program's Fills (8.1) returns, over this seat's translation. Conditions stand in each theorem: where the book lies, that its orders are those of the document's list, and how many lots are willing.
-/
namespace Go.Proofs.Ytcoijhofliilmab
open Go.RowKit

theorem Try.infoFp : (Try.prog.info? 49).map (fun i => (i.zero, i.size, i.bytes)) = some (some (.agg #[.int .i64 0, .int .i64 0, .int .i64 0, .int .i64 0]), 4, 32) := by kernel_rfl
/-- nothing of the program's book is a row of another type, nor a block of one -/
theorem Bk.farAny {w : World} {bb m base size n : Nat} {e : TypeId} {b : BkS} {v : Value} {xs : List Value} (h : Bk w bb m b) (hr : w.ownsRow base e size v n xs) (h1 : e ≠ 73) (h2 : e ≠ 103) (h3 : e ≠ 108) (h4 : e ≠ 3) (h5 : e ≠ 78) : ∀ k, v.ownBlock = some k → ¬ b.foot bb k := fun k hk f => by
  rcases f with f | f | f | f | f
  · exact owns_type hr h.at_.box h1.symm (by rw [hk, f])
  · rcases f with f | f | f
    · exact owns_type hr h.at_.ar.box h2.symm (by rw [hk, f])
    · exact owns_types hr h.at_.ar.slots h3 hk f
    · exact owns_types hr h.at_.ar.free h4 hk f
  · exact owns_notMap hr h.at_.map (by rw [hk, f])
  · exact owns_types hr h.at_.row0 h5 hk f
  · exact owns_types hr h.at_.row1 h5 hk f
theorem Bk.farBox {w : World} {bb m k : Nat} {b : BkS} {vs : Array Value} {t : TypeId} (h : Bk w bb m b) (hk : w.heap[k]? = some (.cells vs t (0, 0))) (h1 : t ≠ 73) (h2 : t ≠ 103) (h3 : t ≠ 108) (h4 : t ≠ 3) (h5 : t ≠ 78) : ¬ b.foot bb k := fun e => by
  rcases e with e | e | e | e | e
  · exact blk_ne hk h.at_.box h1 e
  · rcases e with e | e | e
    · exact blk_ne hk h.at_.ar.box h2 e
    · exact owns_type h.at_.ar.slots hk h3 e
    · exact owns_type h.at_.ar.free hk h4 e
  · exact h.at_.map.ne hk e
  · exact owns_type h.at_.row0 hk h5 e
  · exact owns_type h.at_.row1 hk h5 e

set_option maxRecDepth 4000 in
set_option maxHeartbeats 4000000 in
theorem cpFills_no (bb m : Nat) (b : BkS) (L : List Ord) (p q : Int) (w : World) (h : Bk w bb m b) (hl : Lnk b.S L) (hok : LOk L) (hno : ¬ (1 ≤ q ∧ q ≤ min (wilL 1 p L) (wilL 2 p L))) :
    Calls Try.prog 15 #[.pointer (some ⟨bb, 0, none⟩), .int .i64 p, .int .i64 q] w fun e w' => e = .returned (.tuple #[.slice none 0 0, .iface 75 (.int .i64 2)]) ∧ Below w.heap.size w w' := by
  have H : Hid (Bk w bb m b) := h
  have HL : Hid (Lnk b.S L) := hl
  have HK : Hid (LOk L) := hok
  clear h hl hok
  go_enter Try.func15, Try.ntmps15
  go_wp2_with fail
  refine (cpWilling p w).mono ?_
  rintro e w1 ⟨rfl, rfl⟩
  have hb1 := bel1 w (.cells #[.int .i64 p] 3)
  have hp1 := heap_alloc_new w (.cells #[.int .i64 p] 3)
  generalize w.alloc (.cells #[.int .i64 p] 3) = w1 at hb1 hp1 ⊢
  have HB1 : Hid (Below w.heap.size w w1) := hb1
  have HP1 : Hid _ := hp1
  clear hb1 hp1
  by_cases hq : q < 1
  · go_wp2_with fail
    go_ret2
    exact ⟨rfl, HB1.out⟩
  · have hq2 : decide (q > min (wilL 1 p L) (wilL 2 p L)) = true := decide_eq_true (by omega)
    go_wp2_with fail
    refine (cpLots bb m 0 b L p w.heap.size w1 (H.out.below HB1.out (Nat.le_refl _)) HL.out HK.out (by decide) 1 rfl HP1.out).mono ?_
    rintro e w2 ⟨rfl, hb2⟩
    have HB2 : Hid (Below w.heap.size w w2) := bel_then HB1.out hb2
    have HP2 : Hid _ := blk_below HP1.out hb2 (Nat.le_refl _)
    clear hb2
    go_wp2_with fail
    refine (cpLots bb m 1 b L p w.heap.size w2 (H.out.below HB2.out (Nat.le_refl _)) HL.out HK.out (by decide) 2 rfl HP2.out).mono ?_
    rintro e w3 ⟨rfl, hb3⟩
    have HB3 : Hid (Below w.heap.size w w3) := bel_then HB2.out hb3
    clear hb3
    go_wp2_with fail
    go_ret2
    exact ⟨rfl, HB3.out⟩

/-- a trade in a block of its own -/
def FBox (w : World) (b : Nat) (f : Fil) : Prop := w.heap[b]? = some (.cells #[.int .i64 f.buyer, .int .i64 f.seller, .int .i64 f.price, .int .i64 f.qty] 49 (0, 0))
/-- between two trades: the book, of one mind with a list of orders, changed since w alone; the trades so far -/
structure Cpt (w W : World) (bb m : Nat) (b b' : BkS) (L : List Ord) (fs : List Fil) (vf : Value) : Prop where
  bk : Bk W bb m b'
  lnk : Lnk b'.S L
  since : Since w W bb b b'
  fils : W.ownsRow w.heap.size 49 4 vf fs.length (fV fs)
section
variable {w W W' : World} {bb m m' k : Nat} {b b' b2 : BkS} {L L' : List Ord} {fs : List Fil} {vf v' : Value} {x : Ord} {f : Fil} {obj : Obj}
theorem Cpt.below (h : Cpt w W bb m b b' L fs vf) (hb : Below W.heap.size W W') : Cpt w W' bb m b b' L fs vf := ⟨h.bk.below hb (Nat.le_refl _), h.lnk, h.since.below hb, owns_below h.fils hb (Nat.le_refl _)⟩
theorem Cpt.goes (h : Cpt w W bb m b b' L fs vf) (hg : Goes W W' bb m' b' b2) (hl : Lnk b2.S L') : Cpt w W' bb m' b b2 L' fs vf :=
  ⟨hg.1, hl, h.since.goes hg, owns_out h.fils hg.2.1 (h.bk.farAny h.fils (by decide) (by decide) (by decide) (by decide) (by decide))⟩
theorem Cpt.pushed (_ : Cpt w W bb m b b' L fs vf) (hg : (W.alloc obj).grownBy W' vf.ownBlock) : Out (fun j => vf.ownBlock = some j) W W' := out_then (out_alloc (Out.refl _ _) _) (Out.of_grown hg (fun _ hk => hk))
theorem Cpt.push (h : Cpt w W bb m b b' L fs vf) (hg : (W.alloc obj).grownBy W' vf.ownBlock) (hn : W'.ownsRow w.heap.size 49 4 v' (fs.length + 1) (fV fs ++ [.int .i64 f.buyer, .int .i64 f.seller, .int .i64 f.price, .int .i64 f.qty])) : Cpt w W' bb m b b' L (fs ++ [f]) v' := by
  have h6 := h.pushed hg
  refine ⟨h.bk.out h6 (fun k hk e => h.bk.farAny h.fils (by decide) (by decide) (by decide) (by decide) (by decide) k e hk), h.lnk, ⟨h.since.1.trans h6 (fun k hk => Or.inr (h.fils.lt k hk).1), h.since.2⟩, ?_⟩
  rw [fV_snoc, List.length_append, List.length_singleton]; exact hn
theorem Cpt.boxO (h : Cpt w W bb m b b' L fs vf) (hg : Goes W W' bb m' b' b2) (hx : OrdAt W k x) : OrdAt W' k x := blk_out hx hg.2.1 (h.bk.farBox hx (by decide) (by decide) (by decide) (by decide) (by decide))
theorem Cpt.boxF (h : Cpt w W bb m b b' L fs vf) (hg : Goes W W' bb m' b' b2) (hx : FBox W k f) : FBox W' k f := blk_out hx hg.2.1 (h.bk.farBox hx (by decide) (by decide) (by decide) (by decide) (by decide))
theorem best_is (hl : Lnk b.S L) {s : Nat} (hs : s < 2) {T : List Ord} (h : sideO ((s : Int) + 1) L = x :: T) : bestV ((b.S s).map Ly.o) = .tuple #[.agg #[.int .i64 x.id, .int .i64 x.side, .int .i64 x.kind, .int .i64 x.price, .int .i64 x.qty], .nilIface] := by
  rw [hl.side s hs, h]; rfl
theorem lnk_wf (h : Bk w bb m b) (hl : Lnk b.S L) (hx : x ∈ L) : (Lit.int .i64 x.id).wf = true := by
  obtain ⟨s, hs, y, hy, rfl⟩ := hl.mem.1 hx
  exact (h.ok.ok s hs y hy).2.1
end
/-- Cut of lots that an order has -/
theorem cpCut_yes (bb m : Nat) (b : BkS) (L : List Ord) (o : Ord) (n : Int) (w : World) (h : Bk w bb m b) (hm : m + 1 ≤ 900) (hl : Lnk b.S L) (hok : LOk L) (ho : o ∈ L) (hn : 1 ≤ n ∧ n ≤ o.qty) :
    Calls Try.prog 45 #[.pointer (some ⟨bb, 0, none⟩), .int .i64 o.id, .int .i64 n] w fun e w' => ∃ err, e = .returned err ∧ ∃ b', Lnk b'.S (lessF o.id n L) ∧ Goes w w' bb (m + 1) b b' := by
  refine (prog_cut h hm hl o.id n (lnk_wf h hl ho)).mono ?_
  rintro e w' ⟨err, rfl, _, b', h1, h2⟩
  rw [(cut_is hok ho hn).1] at h1
  exact ⟨err, rfl, b', h1, h2⟩

set_option maxRecDepth 4000 in
set_option maxHeartbeats 8000000 in
theorem cpFills (bb m : Nat) (b : BkS) (L : List Ord) (p q : Int) (w : World) (h : Bk w bb m b) (hm : m ≤ 600) (hl : Lnk b.S L) (hok : LOk L) (hq : 1 ≤ q ∧ q ≤ min (wilL 1 p L) (wilL 2 p L)) :
    Calls Try.prog 15 #[.pointer (some ⟨bb, 0, none⟩), .int .i64 p, .int .i64 q] w fun e w' => ∃ (K : Nat) (vf : Value), e = .returned (.tuple #[vf, .nilIface]) ∧ (fiter p ⟨[], L, q⟩ K).q = 0 ∧ (∀ j, j < K → 0 < (fiter p ⟨[], L, q⟩ j).q) ∧ ∃ b', Cpt w w' bb (m + 2 * K) b b' (fiter p ⟨[], L, q⟩ K).L (fiter p ⟨[], L, q⟩ K).fs vf := by
  obtain ⟨iF, hiF, hF0, hF1, hF2⟩ := info_parts Try.infoFp
  have H : Hid (Bk w bb m b) := h
  have HL : Hid (Lnk b.S L) := hl
  have HK : Hid (LOk L) := hok
  have HF0 : Hid (FOk p ⟨[], L, q⟩) := ⟨hok, by show 0 ≤ q; omega, by show q ≤ wilL 1 p L; omega, by show q ≤ wilL 2 p L; omega⟩
  have hL100 : L.length ≤ 100 := lnk_few h.ok hl
  have hqs : q ≤ 100000000 := by have := wilL_in 1 p hok; omega
  have hq1 : ¬ q < 1 := by omega
  have hq2 : decide (q > min (wilL 1 p L) (wilL 2 p L)) = false := decide_eq_false (by omega)
  clear h hl hok hq
  go_enter Try.func15, Try.ntmps15
  go_wp2_with fail
  refine (cpWilling p w).mono ?_
  rintro e w1 ⟨rfl, rfl⟩
  have hb1 := bel1 w (.cells #[.int .i64 p] 3)
  have hp1 := heap_alloc_new w (.cells #[.int .i64 p] 3)
  generalize w.alloc (.cells #[.int .i64 p] 3) = w1 at hb1 hp1 ⊢
  have HB1 : Hid (Below w.heap.size w w1) := hb1
  have HP1 : Hid _ := hp1
  clear hb1 hp1
  go_wp2_with fail
  refine (cpLots bb m 0 b L p w.heap.size w1 (H.out.below HB1.out (Nat.le_refl _)) HL.out HK.out (by decide) 1 rfl HP1.out).mono ?_
  rintro e w2 ⟨rfl, hb2⟩
  have HB2 : Hid (Below w.heap.size w w2) := bel_then HB1.out hb2
  have HP2 : Hid _ := blk_below HP1.out hb2 (Nat.le_refl _)
  clear hb2
  go_wp2_with fail
  refine (cpLots bb m 1 b L p w.heap.size w2 (H.out.below HB2.out (Nat.le_refl _)) HL.out HK.out (by decide) 2 rfl HP2.out).mono ?_
  rintro e w3 ⟨rfl, hb3⟩
  have HB3 : Hid (Below w.heap.size w w3) := bel_then HB2.out hb3
  clear hb3
  go_wp2_with fail
  clear hq2 hq1
  go_loopw [2, 9, 10, 11, 12, 13, 14] (fun u2 u9 _ _ _ _ _ wr => ∃ (k : Nat) (b' : BkS), u2 = .int .i64 (fiter p ⟨[], L, q⟩ k).q ∧ (∀ j, j < k → 0 < (fiter p ⟨[], L, q⟩ j).q) ∧ (fiter p ⟨[], L, q⟩ k).fs.length = k ∧ (k : Int) + (fiter p ⟨[], L, q⟩ k).q ≤ q ∧ Cpt w wr bb (m + 2 * k) b b' (fiter p ⟨[], L, q⟩ k).L (fiter p ⟨[], L, q⟩ k).fs u9) (fun u2 _ _ _ _ _ _ _ => (intOf u2).toNat)
  case atStart => exact ⟨0, b, rfl, fun j hj => absurd hj (by omega), rfl, by show (0 : Int) + q ≤ q; omega, H.out.below HB3.out (Nat.le_refl _), HL.out, (Since.refl _ _ _).below HB3.out, World.ownsRow_nil _ _ _ _⟩
  case round =>
    obtain ⟨k, b', rfl, hj, hfl, hkq, hC⟩ := hrel
    have HJ : Hid (∀ j, j < k → 0 < (fiter p ⟨[], L, q⟩ j).q) := hj
    have HFO : Hid (FOk p (fiter p ⟨[], L, q⟩ k)) := fiter_ok HF0.out k hj
    have hq0 := HFO.out.nn
    have HC : Hid (Cpt w wr bb (m + 2 * k) b b' (fiter p ⟨[], L, q⟩ k).L (fiter p ⟨[], L, q⟩ k).fs u9) := hC
    obtain ⟨fa, fc, rfl, _, _⟩ := owns_shape hC.fils
    have HFL : Hid ((fiter p ⟨[], L, q⟩ k).fs.length = k) := hfl
    clear hj hfl
    by_cases hq1 : 0 < (fiter p ⟨[], L, q⟩ k).q
    · have HST : Hid (fiter p ⟨[], L, q⟩ (k + 1) = fstep p (fiter p ⟨[], L, q⟩ k)) := rfl
      have HJ2 : Hid (∀ j, j < k + 1 → 0 < (fiter p ⟨[], L, q⟩ j).q) := fun j hj => by
        by_cases e : j = k
        · subst e; exact hq1
        · exact HJ.out j (by omega)
      have hfew : k + (fiter p ⟨[], L, q⟩ k).L.length ≤ L.length := fiter_few HF0.out k HJ2.out
      obtain ⟨⟨x, T, y, U, hS1, hS2, hbx, hby, hxL, hyL, hy1, n1, n2, n3, n4, c1, hL2, c2, c4, ok1⟩, hFO2⟩ := fstep_ok HFO.out hq1
      generalize fiter p ⟨[], L, q⟩ k = s at *
      have HLN : Hid (lotN s = min x.qty (min y.qty s.q)) := by show lotN s = _; unfold lotN; rw [hbx, hby]; omega
      have HFS : Hid ((fstep p s).fs = s.fs ++ [⟨x.id, y.id, p, lotN s⟩] ∧ (fstep p s).q = s.q - lotN s) := ⟨by show s.fs ++ [_] = _; rw [hbx, hby], rfl⟩
      have HBX : Hid (bestV ((b'.S 0).map Ly.o) = .tuple #[.agg #[.int .i64 x.id, .int .i64 x.side, .int .i64 x.kind, .int .i64 x.price, .int .i64 x.qty], .nilIface]) := best_is hC.lnk (by decide) hS1
      have HBY : Hid (bestV ((b'.S 1).map Ly.o) = .tuple #[.agg #[.int .i64 y.id, .int .i64 y.side, .int .i64 y.kind, .int .i64 y.price, .int .i64 y.qty], .nilIface]) := best_is hC.lnk (by decide) hS2
      have HM : Hid (x ∈ s.L ∧ y ∈ lessF x.id (lotN s) s.L ∧ LOk (lessF x.id (lotN s) s.L) ∧ (fstep p s).L = lessF y.id (lotN s) (lessF x.id (lotN s) s.L) ∧ lotN s ≤ x.qty ∧ lotN s ≤ y.qty) := ⟨hxL, hy1, ok1, hL2, n3, n4⟩
      have px := HFO.out.ok.ok x hxL
      have py := HFO.out.ok.ok y hyL
      have hxs : (x.side == 2) = false := by
        have : x ∈ sideO 1 s.L := by rw [hS1]; exact List.mem_cons_self ..
        rw [(sideO_mem.1 this).2]; rfl
      clear hS1 hS2 hbx hby hxL hyL hy1 c1 hL2 c2 c4 ok1 n3 n4 HJ hC
      go_wp2_with fail
      refine (pbBest bb (m + 2 * k) 0 b' wr HC.out.bk (by decide) 1 rfl).mono ?_
      rintro e w4 ⟨rfl, hb4⟩
      rw [HBX.out]
      have HC4 : Hid _ := HC.out.below hb4
      clear hb4 HC
      go_wp2_with fail
      have hb5 := bel1 w4 (.cells #[.int .i64 x.id, .int .i64 x.side, .int .i64 x.kind, .int .i64 x.price, .int .i64 x.qty] 40)
      have hx5 := heap_alloc_new w4 (.cells #[.int .i64 x.id, .int .i64 x.side, .int .i64 x.kind, .int .i64 x.price, .int .i64 x.qty] 40)
      generalize w4.alloc (.cells #[.int .i64 x.id, .int .i64 x.side, .int .i64 x.kind, .int .i64 x.price, .int .i64 x.qty] 40) = w5 at hb5 hx5 ⊢
      have HC5 : Hid _ := HC4.out.below hb5
      clear hb5 HC4
      refine (pbBest bb (m + 2 * k) 1 b' w5 HC5.out.bk (by decide) 2 rfl).mono ?_
      rintro e w6 ⟨rfl, hb6⟩
      rw [HBY.out]
      have HC6 : Hid _ := HC5.out.below hb6
      have hx6 := blk_below hx5 hb6 (Nat.le_refl _)
      clear hb6 HC5 hx5
      have HX6 : Hid _ := hx6
      clear hx6
      have hne : ∀ j, (Value.slice fa s.fs.length fc).ownBlock = some j → j < w6.heap.size := fun j hj => (HC6.out.fils.lt j hj).2
      have HNE : Hid _ := hne
      clear hne
      go_upto_region 8 with fail
      have hb7 := bel1 w6 (.cells #[.int .i64 y.id, .int .i64 y.side, .int .i64 y.kind, .int .i64 y.price, .int .i64 y.qty] 40)
      have hy7 := heap_alloc_new w6 (.cells #[.int .i64 y.id, .int .i64 y.side, .int .i64 y.kind, .int .i64 y.price, .int .i64 y.qty] 40)
      generalize w6.alloc (.cells #[.int .i64 y.id, .int .i64 y.side, .int .i64 y.kind, .int .i64 y.price, .int .i64 y.qty] 40) = w7 at hb7 hy7 ⊢
      have HC7 : Hid _ := HC6.out.below hb7
      have hx7 := blk_below HX6.out hb7 (Nat.le_refl _)
      have hz7 : w6.heap.size ≤ w7.heap.size := hb7.size
      have x0 := blk_cell (j := 0) hx7 rfl
      have x1 := blk_cell (j := 1) hx7 rfl
      have x2 := blk_cell (j := 2) hx7 rfl
      have x3 := blk_cell (j := 3) hx7 rfl
      have x4 := blk_cell (j := 4) hx7 rfl
      have y0 := blk_cell (j := 0) hy7 rfl
      have y1 := blk_cell (j := 1) hy7 rfl
      have y2 := blk_cell (j := 2) hy7 rfl
      have y3 := blk_cell (j := 3) hy7 rfl
      have y4 := blk_cell (j := 4) hy7 rfl
      clear hb7 hx7 hy7 HX6 HC6
      generalize w4.heap.size = xb at *
      generalize w6.heap.size = yb at *
      go_wp2_with fail
      refine (cpBetween1 x y p w7 hxs).mono ?_
      rintro e w8 ⟨rfl, hb8⟩
      have HC8 : Hid _ := HC7.out.below hb8
      have hz8 : w7.heap.size ≤ w8.heap.size := hb8.size
      clear hb8 HC7 x0 x1 x2 x3 x4 y0 y1 y2 y3 y4
      go_upto_region 9 with fail
      have hb9 := bel1 w8 (.cells #[.int .i64 x.id, .int .i64 y.id, .int .i64 p, .int .i64 (min x.qty y.qty)] 49)
      have hf9 := heap_alloc_new w8 (.cells #[.int .i64 x.id, .int .i64 y.id, .int .i64 p, .int .i64 (min x.qty y.qty)] 49)
      generalize w8.alloc (.cells #[.int .i64 x.id, .int .i64 y.id, .int .i64 p, .int .i64 (min x.qty y.qty)] 49) = w9 at hb9 hf9 ⊢
      have f3 := blk_cell (j := 3) hf9 rfl
      have ff3 := blk_free (j := 3) hf9
      have HF9 : Hid _ := hf9
      have HB9 : Hid _ := hb9
      clear hf9 hb9
      go_upto_region 10 with fail
      have hb10 := HB9.out.setCell (p := ⟨w8.heap.size, 3, none⟩) (Nat.le_refl _) (.int .i64 (min x.qty (min y.qty s.q)))
      have hf10 : FBox (w9.setCell ⟨w8.heap.size, 3, none⟩ (.int .i64 (min x.qty (min y.qty s.q)))) w8.heap.size ⟨x.id, y.id, p, min x.qty (min y.qty s.q)⟩ := blk_set (j := 3) (.int .i64 (min x.qty (min y.qty s.q))) HF9.out
      generalize w9.setCell ⟨w8.heap.size, 3, none⟩ (.int .i64 (min x.qty (min y.qty s.q))) = w10 at hb10 hf10 ⊢
      have HC10 : Hid _ := HC8.out.below hb10
      have hnb : (Value.slice fa s.fs.length fc).ownBlock ≠ some w8.heap.size := fun e => by have := HNE.out _ e; omega
      have HNB : Hid _ := hnb
      clear hb10 HC8 HB9 HF9 f3 ff3 hnb HNE hz7 hz8
      generalize w8.heap.size = fb at *
      have HF10 : Hid (FBox w10 fb ⟨x.id, y.id, p, min x.qty (min y.qty s.q)⟩) := hf10
      have f0 : w10.cell? ⟨fb, 0, none⟩ = some (.int .i64 x.id) := blk_cell (j := 0) hf10 rfl
      have f3 : w10.cell? ⟨fb, 3, none⟩ = some (.int .i64 (min x.qty (min y.qty s.q))) := blk_cell (j := 3) hf10 rfl
      rw [HLN.out] at HFS HM n1 n2
      clear hf10
      go_wp2_with fail
      refine (cpCut_yes bb (m + 2 * k) b' s.L x (min x.qty (min y.qty s.q)) w10 HC10.out.bk (by omega) HC10.out.lnk HFO.out.ok HM.out.1 ⟨n1, HM.out.2.2.2.2.1⟩).mono ?_
      rintro e w11 ⟨err1, rfl, b1, hl1, hg1⟩
      have hf11 := HC10.out.boxF hg1 HF10.out
      have HC11 : Hid _ := HC10.out.goes hg1 hl1
      have HF11 : Hid (FBox w11 fb ⟨x.id, y.id, p, min x.qty (min y.qty s.q)⟩) := hf11
      clear f0 f3 hl1 hg1 HC10 HF10
      have f1 : w11.cell? ⟨fb, 1, none⟩ = some (.int .i64 y.id) := blk_cell (j := 1) hf11 rfl
      have f3 : w11.cell? ⟨fb, 3, none⟩ = some (.int .i64 (min x.qty (min y.qty s.q))) := blk_cell (j := 3) hf11 rfl
      clear hf11
      go_wp2_with fail
      refine (cpCut_yes bb (m + 2 * k + 1) b1 (lessF x.id (min x.qty (min y.qty s.q)) s.L) y (min x.qty (min y.qty s.q)) w11 HC11.out.bk (by omega) HC11.out.lnk HM.out.2.2.1 HM.out.2.1 ⟨n1, HM.out.2.2.2.2.2⟩).mono ?_
      rintro e w12 ⟨err2, rfl, b2, hl2, hg2⟩
      have hf12 := HC11.out.boxF hg2 HF11.out
      have HC12 : Hid _ := HC11.out.goes hg2 hl2
      have HF12 : Hid (FBox w12 fb ⟨x.id, y.id, p, min x.qty (min y.qty s.q)⟩) := hf12
      clear f1 f3 hl2 hg2 HC11 HF11
      have g0 : w12.cell? ⟨fb, 0, none⟩ = some (.int .i64 x.id) := blk_cell (j := 0) hf12 rfl
      have g1 : w12.cell? ⟨fb, 1, none⟩ = some (.int .i64 y.id) := blk_cell (j := 1) hf12 rfl
      have g2 : w12.cell? ⟨fb, 2, none⟩ = some (.int .i64 p) := blk_cell (j := 2) hf12 rfl
      have g3 : w12.cell? ⟨fb, 3, none⟩ = some (.int .i64 (min x.qty (min y.qty s.q))) := blk_cell (j := 3) hf12 rfl
      clear hf12
      have hln : s.fs.length ≤ 100 := by have := HFL.out; omega
      have hwz : w.heap.size ≤ w12.heap.size := HC12.out.since.1.size
      go_wp2_with (at_builtin; refine wpList_append_own_at _ rfl _ _ 44 rfl w.heap.size 49 iF (.agg #[.int .i64 0, .int .i64 0, .int .i64 0, .int .i64 0]) 4 32 Try.underlying44 hiF hF0 hF1 hF2 rfl (by decide) _ s.fs.length (fV s.fs) rfl (HC12.out.fils.alloc _) ⟨w12.heap.size, 0, none⟩ 1 1 [.int .i64 x.id, .int .i64 y.id, .int .i64 p, .int .i64 (min x.qty (min y.qty s.q))] rfl rfl (World.news_of_block (cs := #[.int .i64 x.id, .int .i64 y.id, .int .i64 p, .int .i64 (min x.qty (min y.qty s.q))]) (t := 49) (fr := (0, 0)) (heap_alloc_new w12 _)) (by simp [Value.oneCell']) (by unfold maxLen; omega) (by omega) (by simp; omega) ?_; intro v13 w13 hown13 hgrow13 _ _; have f13 := blk_out HF12.out (HC12.out.pushed hgrow13) HNB.out; have c13 : w13.cell? ⟨fb, 3, none⟩ = some (.int .i64 (min x.qty (min y.qty s.q))) := blk_cell (j := 3) f13 rfl; have HC13 : Hid _ := HC12.out.push (f := ⟨x.id, y.id, p, min x.qty (min y.qty s.q)⟩) hgrow13 hown13; clear f13 hown13 hgrow13 g0 g1 g2 g3)
      go_roundw
      case rel =>
        have hk0 : s.fs.length = k := HFL.out
        refine ⟨k + 1, b2, ?_, HJ2.out, ?_, ?_, ?_⟩
        · rw [HST.out, HFS.out.2]; try go_num
        · rw [HST.out, HFS.out.1, List.length_append, List.length_singleton, hk0]
        · rw [HST.out, HFS.out.2]; omega
        · rw [HST.out, HFS.out.1, HM.out.2.2.2.1]; exact HC13.out
      case measure => simp [RowKit.intOf]; omega
    · go_wp2_with fail
      go_ret2
      exact ⟨k, _, rfl, by omega, HJ.out, b', HC.out⟩
end Go.Proofs.Ytcoijhofliilmab
