/-
  What the program's small functions of chapter 8 return (willing, lying, lots, between, other), over this seat's translation. Conditions stand in each theorem.
-/
import Derived.Test.YtcoijhofliilmabGreatDoorFM
import Derived.Lib.MinMax
import Derived.Maps.AppendAt
import Derived.Test.YtcoijhofliilmabGreatDoorFO
import Derived.Test.YtcoijhofliilmabGreatDoorRows
import Derived.ProofKit
import Derived.OpenShut
import Derived.Deep.Fields
import Derived.Test.YtcoijhofliilmabGreatDoorFL
import Derived.LaidLaws
import Derived.LaidHandle
namespace Go.Proofs.YtcoijhofliilmabGreatDoor
open Go.RowKit

/-- 8.1, as the program asks it: is an order willing at a price? -/
def wilP (p : Int) (o : Ord) : Bool := if (o.kind == 2) = true then true else if (o.side == 1) = true then decide (p ≤ o.price) else decide (o.price ≤ p)
theorem wilP_is {s p : Int} {o : Ord} (hs : s = 1 ∨ s = 2) (ho : o.side = s) : wilP p o = wilB s p o := by
  unfold wilP wilB
  rw [ho]
  rcases hs with rfl | rfl
  · by_cases h : (o.kind == 2) = true
    · rw [if_pos h, h]; rfl
    · rw [if_neg h, show (o.kind == 2) = false from Bool.eq_false_iff.2 h]; simp
  · by_cases h : (o.kind == 2) = true
    · rw [if_pos h, h]; rfl
    · rw [if_neg h, show (o.kind == 2) = false from Bool.eq_false_iff.2 h]; simp

set_option maxHeartbeats 1000000 in
theorem cpWilling (p : Int) (w : World) : Calls Tryz.prog 24 #[.int .i64 p] w fun e w' => e = .returned (.func (.func 52) #[] #[.pointer (some ⟨w.heap.size, 0, none⟩)]) ∧ w' = w.alloc (.cells #[.int .i64 p] 3) := by
  go_enter Tryz.func24, Tryz.ntmps24
  go_wp2
  go_ret
  exact ⟨rfl, rfl⟩

set_option maxRecDepth 4000 in
set_option maxHeartbeats 1000000 in
theorem cpWil (p : Int) (o : Ord) (b : Nat) (w : World) (h : w.heap[b]? = some (.cells #[.int .i64 p] 3 (0, 0))) :
    Calls Tryz.prog 52 #[.agg #[.int .i64 o.id, .int .i64 o.side, .int .i64 o.kind, .int .i64 o.price, .int .i64 o.qty], .pointer (some ⟨b, 0, none⟩)] w fun e w' => e = .returned (.bool (wilP p o)) ∧ Below w.heap.size w w' := by
  have hb := bel1 w (.cells #[.int .i64 o.id, .int .i64 o.side, .int .i64 o.kind, .int .i64 o.price, .int .i64 o.qty] 40)
  have c0 := blk_cell (j := 0) (blk_below h hb (Nat.le_refl _)) rfl
  have HB : Hid _ := hb
  clear h hb
  unfold wilP
  cases hk : (o.kind == 2) with
  | true =>
    go_enter Tryz.func52, Tryz.ntmps52
    go_wp2
    go_ret
    exact ⟨rfl, HB.out⟩
  | false =>
    cases hs : (o.side == 1) with
    | true =>
      go_enter Tryz.func52, Tryz.ntmps52
      go_wp2
      go_ret
      exact ⟨rfl, HB.out⟩
    | false =>
      go_enter Tryz.func52, Tryz.ntmps52
      go_wp2
      go_ret
      exact ⟨rfl, HB.out⟩

set_option maxHeartbeats 1000000 in
/-- the orders of a side -/
theorem cpLying (bb m s : Nat) (b : BkS) (L : List Ord) (w : World) (h : Bk w bb m b) (hl : Lnk b.S L) (hs : s < 2) (side : Int) (hsd : side = (s : Int) + 1) :
    Calls Tryz.prog 37 #[.pointer (some ⟨bb, 0, none⟩), .int .i64 side] w fun e w' => ∃ v, e = .returned v ∧ w'.ownsRow w.heap.size 40 5 v (sideO side L).length (oV (sideO side L)) ∧ Below w.heap.size w w' := by
  have H : Hid (Bk w bb m b) := h
  have e1 : (b.S s).map Ly.o = sideO side L := by rw [hsd]; exact hl.side s hs
  have HE : Hid ((b.S s).map Ly.o = sideO side L) := e1
  have HSD : Hid (side = (s : Int) + 1) := hsd
  clear h e1 hl hsd
  go_enter Tryz.func37, Tryz.ntmps37
  go_wp2_with fail
  refine (pbSideOf bb m s b w H.out hs side HSD.out).mono ?_
  rintro e w1 ⟨v, rfl, h1, h2⟩
  rw [HE.out, show (b.S s).length = (sideO side L).length by rw [← HE.out, List.length_map]] at h1
  have H1 : Hid _ := h1
  have H2 : Hid _ := h2
  clear h1 h2
  go_wp2_with fail
  go_ret
  exact ⟨v, rfl, H1.out, H2.out⟩

set_option maxHeartbeats 1000000 in
theorem cpOther (s : Int) (hs : s = 1 ∨ s = 2) (w : World) : Calls Tryz.prog 38 #[.int .i64 s] w fun e w' => e = .returned (.int .i64 (3 - s)) ∧ w' = w := by
  rcases hs with rfl | rfl
  · go_enter Tryz.func38, Tryz.ntmps38
    go_wp2
    go_ret
    exact ⟨rfl, rfl⟩
  · go_enter Tryz.func38, Tryz.ntmps38
    go_wp2
    go_ret
    exact ⟨rfl, rfl⟩
end Go.Proofs.YtcoijhofliilmabGreatDoor

/-
  What the program's between and lots (8.1) return, over this seat's translation. Conditions stand in each theorem.
-/
namespace Go.Proofs.YtcoijhofliilmabGreatDoor
open Go.RowKit

set_option maxRecDepth 4000 in
set_option maxHeartbeats 2000000 in
theorem cpBetween1 (o x : Ord) (p : Int) (w : World) (hs : (o.side == 2) = false) :
    Calls Tryz.prog 27 #[.agg #[.int .i64 o.id, .int .i64 o.side, .int .i64 o.kind, .int .i64 o.price, .int .i64 o.qty], .agg #[.int .i64 x.id, .int .i64 x.side, .int .i64 x.kind, .int .i64 x.price, .int .i64 x.qty], .int .i64 p] w
      fun e w' => e = .returned (.agg #[.int .i64 o.id, .int .i64 x.id, .int .i64 p, .int .i64 (min o.qty x.qty)]) ∧ Below w.heap.size w w' := by
  have HS : Hid ((o.side == 2) = false) := hs
  go_enter Tryz.func27, Tryz.ntmps27
  go_wp2_with fail
  refine bodyPost_ret (by simp [results, Tryz.results27, go_sem]; try rfl) rfl ?_
  refine ⟨rfl, ?_⟩
  (repeat' first | assumption | exact Below.refl _ _ | exact Nat.le_refl _ | refine Below.alloc ?_ ?_ _ | refine Below.setCell ?_ ?_ _ | (simp; done) | (simp; omega))

set_option maxRecDepth 4000 in
set_option maxHeartbeats 4000000 in
theorem cpBetween2 (o x : Ord) (p : Int) (w : World) (hs : (o.side == 2) = true) :
    Calls Tryz.prog 27 #[.agg #[.int .i64 o.id, .int .i64 o.side, .int .i64 o.kind, .int .i64 o.price, .int .i64 o.qty], .agg #[.int .i64 x.id, .int .i64 x.side, .int .i64 x.kind, .int .i64 x.price, .int .i64 x.qty], .int .i64 p] w
      fun e w' => e = .returned (.agg #[.int .i64 x.id, .int .i64 o.id, .int .i64 p, .int .i64 (min x.qty o.qty)]) ∧ Below w.heap.size w w' := by
  have HS : Hid ((o.side == 2) = true) := hs
  go_enter Tryz.func27, Tryz.ntmps27
  go_wp2_with fail
  refine bodyPost_ret (by simp [results, Tryz.results27, go_sem]; try rfl) rfl ?_
  refine ⟨rfl, ?_⟩
  (repeat' first | assumption | exact Below.refl _ _ | exact Nat.le_refl _ | refine Below.alloc ?_ ?_ _ | refine Below.setCell ?_ ?_ _ | (simp; done) | (simp; omega))

def lotsP (p : Int) (X : List Ord) : Int := (X.map fun o => if wilP p o = true then o.qty else 0).sum
theorem lotsP_take {X : List Ord} {k : Nat} (p : Int) (h : k < X.length) : lotsP p (X.take (k + 1)) = lotsP p (X.take k) + (if wilP p (oAt X k) = true then (oAt X k).qty else 0) := by
  unfold lotsP
  rw [List.take_succ_eq_append_getElem h, List.map_append, List.sum_append, ← oAt_eq h]
  simp
theorem sum_perm {f : Ord → Int} {a b : List Ord} (h : a.Perm b) : (a.map f).sum = (b.map f).sum := by
  induction h with
  | nil => rfl
  | cons x _ ih => simp [ih]
  | swap x y l => simp; omega
  | trans _ _ i1 i2 => exact i1.trans i2
theorem lotsP_on (s p : Int) (hs : s = 1 ∨ s = 2) : ∀ L : List Ord, lotsP p (onSide s L) = wilL s p L
  | [] => rfl
  | o :: L => by
    have ih := lotsP_on s p hs L
    rw [wilL_cons, ← ih]
    unfold onSide
    by_cases h : (o.side == s) = true
    · have e : (o :: L).filter (fun o => o.side == s) = o :: L.filter (fun o => o.side == s) := List.filter_cons_of_pos (by exact h)
      rw [e, h, Bool.true_and, ← wilP_is hs (beq_iff_eq.1 h)]
      rfl
    · have e : (o :: L).filter (fun o => o.side == s) = L.filter (fun o => o.side == s) := List.filter_cons_of_neg (by exact h)
      rw [e, if_neg (by rw [show (o.side == s) = false from Bool.eq_false_iff.2 h]; simp)]
      omega
theorem lotsP_is {s p : Int} (hs : s = 1 ∨ s = 2) (L : List Ord) : lotsP p (sideO s L) = wilL s p L := by
  rw [← lotsP_on s p hs L]
  exact sum_perm (ssort_perm _ _)
theorem lotsP_in {p : Int} {X : List Ord} (h : ∀ o ∈ X, 1 ≤ o.qty ∧ o.qty ≤ 1000000) : ∀ k, k ≤ X.length → 0 ≤ lotsP p (X.take k) ∧ lotsP p (X.take k) ≤ 1000000 * (k : Int)
  | 0, _ => by simp [lotsP]
  | k + 1, hk => by
    have ih := lotsP_in (p := p) h k (by omega)
    have hx := h (oAt X k) (oAt_in (by omega))
    rw [lotsP_take p (by omega)]
    split <;> omega

set_option maxRecDepth 4000 in
set_option maxHeartbeats 4000000 in
theorem cpLots (bb m s : Nat) (b : BkS) (L : List Ord) (p : Int) (pb : Nat) (w : World) (h : Bk w bb m b) (hl : Lnk b.S L) (hok : LOk L) (hs : s < 2) (side : Int) (hsd : side = (s : Int) + 1) (hp : w.heap[pb]? = some (.cells #[.int .i64 p] 3 (0, 0))) :
    Calls Tryz.prog 25 #[.pointer (some ⟨bb, 0, none⟩), .int .i64 side, .func (.func 52) #[] #[.pointer (some ⟨pb, 0, none⟩)]] w fun e w' => e = .returned (.int .i64 (wilL side p L)) ∧ Below w.heap.size w w' := by
  have H : Hid (Bk w bb m b) := h
  have HL : Hid (Lnk b.S L) := hl
  have HP : Hid (w.heap[pb]? = some (.cells #[.int .i64 p] 3 (0, 0))) := hp
  have HQ : Hid (∀ o ∈ sideO side L, 1 ≤ o.qty ∧ o.qty ≤ 1000000) := fun o ho => (hok.ok o (sideO_mem.1 ho).1).2.2
  have hlen : (sideO side L).length ≤ 100 := Nat.le_trans (sideO_len _ _) (lnk_few h.ok hl)
  have HW : Hid (lotsP p (sideO side L) = wilL side p L) := lotsP_is (by omega) L
  have HSD : Hid (side = (s : Int) + 1) := hsd
  clear h hl hp hok hsd
  go_enter Tryz.func25, Tryz.ntmps25
  go_wp2_with fail
  refine (cpLying bb m s b L w H.out HL.out hs side HSD.out).mono ?_
  rintro e w1 ⟨v, rfl, h1, h2⟩
  obtain ⟨xa, xc, rfl, _, _⟩ := owns_shape h1
  have HR : Hid _ := h1
  have HB : Hid (Below w.heap.size w w1) := h2
  have HP1 : Hid (w1.heap[pb]? = some (.cells #[.int .i64 p] 3 (0, 0))) := blk_below HP.out h2 (Nat.le_refl _)
  clear h1 h2 HL H HP
  generalize sideO side L = X at *
  go_wp2_with fail
  go_loopw [7, 9, 14] (fun u7 _ u14 wr => ∃ k : Nat, k ≤ X.length ∧ u14 = .int .i64 k ∧ u7 = .int .i64 (lotsP p (X.take k)) ∧ Below w1.heap.size w1 wr) (fun _ _ u14 _ => X.length - (intOf u14).toNat)
  case atStart => exact ⟨0, Nat.zero_le _, rfl, rfl, Below.refl _ _⟩
  case round =>
    obtain ⟨k, hk, rfl, rfl, hb⟩ := hrel
    have HBR : Hid (Below w1.heap.size w1 wr) := hb
    by_cases hk1 : k < X.length
    · have hlt : (k : Int) < (X.length : Int) := by omega
      obtain ⟨g, cap, e, d0, d1, d2, d3, d4⟩ := row_order (owns_below HR.out hb (Nat.le_refl _)) hk1
      injection e with e1 _ e2
      subst e1 e2
      have hin := lotsP_in (p := p) HQ.out k hk
      have HT : Hid (lotsP p (X.take (k + 1)) = lotsP p (X.take k) + (if wilP p (oAt X k) = true then (oAt X k).qty else 0)) := lotsP_take p hk1
      have hq := HQ.out (oAt X k) (oAt_in hk1)
      generalize oAt X k = x at d0 d1 d2 d3 d4 HT hq
      generalize lotsP p (X.take k) = n at *
      clear hb
      go_wp2_with fail
      have hbA := bel1 wr (.cells #[.int .i64 x.id, .int .i64 x.side, .int .i64 x.kind, .int .i64 x.price, .int .i64 x.qty] 40)
      have hxA := heap_alloc_new wr (.cells #[.int .i64 x.id, .int .i64 x.side, .int .i64 x.kind, .int .i64 x.price, .int .i64 x.qty] 40)
      generalize wr.alloc (.cells #[.int .i64 x.id, .int .i64 x.side, .int .i64 x.kind, .int .i64 x.price, .int .i64 x.qty] 40) = W at hbA hxA ⊢
      have HBW : Hid (Below w1.heap.size w1 W) := bel_then HBR.out hbA
      refine (cpWil p x pb W (blk_below HP1.out HBW.out (Nat.le_refl _))).mono ?_
      rintro e w4 ⟨rfl, hb4⟩
      have x4 := blk_cell (j := 4) (blk_below hxA hb4 (Nat.le_refl _)) rfl
      have HB4 : Hid (Below w1.heap.size w1 w4) := bel_then HBW.out hb4
      clear hbA hxA hb4 d0 d1 d2 d3 d4
      cases hw : wilP p x with
      | true =>
        have HT2 : Hid (lotsP p (X.take (k + 1)) = n + x.qty) := by have := HT.out; rw [hw, if_pos rfl] at this; exact this
        go_wp2_with fail
        go_roundw
        case rel => exact ⟨k + 1, hk1, by go_num, by rw [HT2.out], HB4.out⟩
        case measure => simp [RowKit.intOf]; omega
      | false =>
        have HT2 : Hid (lotsP p (X.take (k + 1)) = n) := by have := HT.out; rw [hw, if_neg (by decide)] at this; rw [this]; exact Int.add_zero _
        go_wp2_with fail
        go_roundw
        case rel => exact ⟨k + 1, hk1, by go_num, by rw [HT2.out], HB4.out⟩
        case measure => simp [RowKit.intOf]; omega
    · have hkx : k = X.length := by omega
      have HT2 : Hid (lotsP p (X.take k) = lotsP p X) := by show _ = _; rw [List.take_of_length_le (by omega)]
      generalize lotsP p (X.take k) = n at *
      clear hb
      go_wp2_with fail
      go_ret
      exact ⟨by rw [HT2.out, HW.out]; rfl, bel_then HB.out HBR.out⟩
end Go.Proofs.YtcoijhofliilmabGreatDoor

/-
  How many trades there are at an auction's price (8.1): never more than orders lie. No program is named here.
-/
namespace Go.Proofs.YtcoijhofliilmabGreatDoor
open Go.RowKit

theorem less_le (id n : Int) (L : List Ord) : (lessF id n L).length ≤ L.length := by
  unfold lessF
  exact Nat.le_trans (List.length_filter_le _ _) (by rw [List.length_map]; exact Nat.le_refl _)
theorem less_lt {L : List Ord} {x : Ord} (hx : x ∈ L) : (lessF x.id x.qty L).length < L.length := by
  have h : ((L.map (cutF x.id x.qty)).filter fun o => decide (0 < o.qty)).length < (L.map (cutF x.id x.qty)).length := by
    refine List.length_filter_lt_length_iff_exists.2 ⟨cutF x.id x.qty x, List.mem_map_of_mem hx, ?_⟩
    rw [cutF_hit]
    show ¬ decide (0 < x.qty - x.qty) = true
    simp
  rw [List.length_map] at h
  exact h
/-- as long as lots are left behind a trade, one order less lies -/
theorem fstep_few {p : Int} {s : FS} (h : FOk p s) (hq : 0 < s.q) (hq2 : 0 < (fstep p s).q) : (fstep p s).L.length < s.L.length := by
  obtain ⟨⟨x, T, y, U, _, _, hbx, hby, hxL, _, hy1, _, _, n3, n4, _, hL2, _, _, _⟩, _⟩ := fstep_ok h hq
  have e1 : lotN s = min s.q (min x.qty y.qty) := by unfold lotN; rw [hbx, hby]
  have e2 : (fstep p s).q = s.q - lotN s := rfl
  rw [hL2]
  have hc : lotN s = x.qty ∨ lotN s = y.qty := by omega
  rcases hc with hc | hc
  · rw [hc]; exact Nat.lt_of_le_of_lt (less_le _ _ _) (less_lt hxL)
  · rw [hc] at hy1 ⊢; exact Nat.lt_of_lt_of_le (less_lt hy1) (less_le _ _ _)
theorem fiter_few {p : Int} {s : FS} (h : FOk p s) : ∀ k, (∀ j, j < k + 1 → 0 < (fiter p s j).q) → k + (fiter p s k).L.length ≤ s.L.length
  | 0, _ => by show 0 + s.L.length ≤ s.L.length; omega
  | k + 1, hq => by
    have ih := fiter_few h k (fun j hj => hq j (by omega))
    have h1 := fstep_few (fiter_ok h k (fun j hj => hq j (by omega))) (hq k (by omega)) (hq (k + 1) (by omega))
    have e : fiter p s (k + 1) = fstep p (fiter p s k) := rfl
    rw [e]; omega
end Go.Proofs.YtcoijhofliilmabGreatDoor

/-
  What the program's Fills (8.1) returns, over this seat's translation. Conditions stand in each theorem: where the book lies, that its orders are those of the document's list, and how many lots are willing.
-/
namespace Go.Proofs.YtcoijhofliilmabGreatDoor
open Go.RowKit

theorem Tryz.infoFp : (Tryz.prog.info? 59).map (fun i => (i.zero, i.size, i.bytes)) = some (some (.agg #[.int .i64 0, .int .i64 0, .int .i64 0, .int .i64 0]), 4, 32) := by kernel_rfl
/-- nothing of the program's book is a row of another type, nor a block of one -/
theorem Bk.farAny {w : World} {bb m base size n : Nat} {e : TypeId} {b : BkS} {v : Value} {xs : List Value} (h : Bk w bb m b) (hr : w.ownsRow base e size v n xs) (h1 : e ≠ 93) (h2 : e ≠ 118) (h3 : e ≠ 123) (h4 : e ≠ 3) (h5 : e ≠ 96) : ∀ k, v.ownBlock = some k → ¬ b.foot bb k := fun k hk f => by
  rcases f with f | f | f | f | f
  · exact owns_type hr h.at_.box h1.symm (by rw [hk, f])
  · rcases f with f | f | f
    · exact owns_type hr h.at_.ar.box h2.symm (by rw [hk, f])
    · exact owns_types hr h.at_.ar.slots h3 hk f
    · exact owns_types hr h.at_.ar.free h4 hk f
  · exact owns_notMap hr h.at_.map (by rw [hk, f])
  · exact owns_types hr h.at_.row0 h5 hk f
  · exact owns_types hr h.at_.row1 h5 hk f
theorem Bk.farBox {w : World} {bb m k : Nat} {b : BkS} {vs : Array Value} {t : TypeId} (h : Bk w bb m b) (hk : w.heap[k]? = some (.cells vs t (0, 0))) (h1 : t ≠ 93) (h2 : t ≠ 118) (h3 : t ≠ 123) (h4 : t ≠ 3) (h5 : t ≠ 96) : ¬ b.foot bb k := fun e => by
  rcases e with e | e | e | e | e
  · exact blk_ne hk h.at_.box h1 e
  · rcases e with e | e | e
    · exact blk_ne hk h.at_.ar.box h2 e
    · exact owns_type h.at_.ar.slots hk h3 e
    · exact owns_type h.at_.ar.free hk h4 e
  · exact h.at_.map.ne hk e
  · exact owns_type h.at_.row0 hk h5 e
  · exact owns_type h.at_.row1 hk h5 e

set_option maxRecDepth 4000 in
set_option maxHeartbeats 4000000 in
theorem cpFills_no (bb m : Nat) (b : BkS) (L : List Ord) (p q : Int) (w : World) (h : Bk w bb m b) (hl : Lnk b.S L) (hok : LOk L) (hno : ¬ (1 ≤ q ∧ q ≤ min (wilL 1 p L) (wilL 2 p L))) :
    Calls Tryz.prog 7 #[.pointer (some ⟨bb, 0, none⟩), .int .i64 p, .int .i64 q] w fun e w' => e = .returned (.tuple #[.slice none 0 0, .iface 28 (.int .i64 2)]) ∧ Below w.heap.size w w' := by
  have H : Hid (Bk w bb m b) := h
  have HL : Hid (Lnk b.S L) := hl
  have HK : Hid (LOk L) := hok
  clear h hl hok
  go_enter Tryz.func7, Tryz.ntmps7
  go_wp2_with fail
  refine (cpWilling p w).mono ?_
  rintro e w1 ⟨rfl, rfl⟩
  have hb1 := bel1 w (.cells #[.int .i64 p] 3)
  have hp1 := heap_alloc_new w (.cells #[.int .i64 p] 3)
  generalize w.alloc (.cells #[.int .i64 p] 3) = w1 at hb1 hp1 ⊢
  have HB1 : Hid (Below w.heap.size w w1) := hb1
  have HP1 : Hid _ := hp1
  clear hb1 hp1
  by_cases hq : q < 1
  · go_wp2_with fail
    go_ret2
    exact ⟨rfl, HB1.out⟩
  · have hq2 : decide (q > min (wilL 1 p L) (wilL 2 p L)) = true := decide_eq_true (by omega)
    go_wp2_with fail
    refine (cpLots bb m 0 b L p w.heap.size w1 (H.out.below HB1.out (Nat.le_refl _)) HL.out HK.out (by decide) 1 rfl HP1.out).mono ?_
    rintro e w2 ⟨rfl, hb2⟩
    have HB2 : Hid (Below w.heap.size w w2) := bel_then HB1.out hb2
    have HP2 : Hid _ := blk_below HP1.out hb2 (Nat.le_refl _)
    clear hb2
    go_wp2_with fail
    refine (cpLots bb m 1 b L p w.heap.size w2 (H.out.below HB2.out (Nat.le_refl _)) HL.out HK.out (by decide) 2 rfl HP2.out).mono ?_
    rintro e w3 ⟨rfl, hb3⟩
    have HB3 : Hid (Below w.heap.size w w3) := bel_then HB2.out hb3
    clear hb3
    go_wp2_with fail
    go_ret2
    exact ⟨rfl, HB3.out⟩

/-- a trade in a block of its own -/
def FBox (w : World) (b : Nat) (f : Fil) : Prop := w.heap[b]? = some (.cells #[.int .i64 f.buyer, .int .i64 f.seller, .int .i64 f.price, .int .i64 f.qty] 59 (0, 0))
/-- between two trades: the book, of one mind with a list of orders, changed since w alone; the trades so far -/
structure Cpt (w W : World) (bb m : Nat) (b b' : BkS) (L : List Ord) (fs : List Fil) (vf : Value) : Prop where
  bk : Bk W bb m b'
  lnk : Lnk b'.S L
  since : Since w W bb b b'
  fils : W.ownsRow w.heap.size 59 4 vf fs.length (fV fs)
section
variable {w W W' : World} {bb m m' k : Nat} {b b' b2 : BkS} {L L' : List Ord} {fs : List Fil} {vf v' : Value} {x : Ord} {f : Fil} {obj : Obj}
theorem Cpt.below (h : Cpt w W bb m b b' L fs vf) (hb : Below W.heap.size W W') : Cpt w W' bb m b b' L fs vf := ⟨h.bk.below hb (Nat.le_refl _), h.lnk, h.since.below hb, owns_below h.fils hb (Nat.le_refl _)⟩
theorem Cpt.goes (h : Cpt w W bb m b b' L fs vf) (hg : Goes W W' bb m' b' b2) (hl : Lnk b2.S L') : Cpt w W' bb m' b b2 L' fs vf :=
  ⟨hg.1, hl, h.since.goes hg, owns_out h.fils hg.2.1 (h.bk.farAny h.fils (by decide) (by decide) (by decide) (by decide) (by decide))⟩
theorem Cpt.pushed (_ : Cpt w W bb m b b' L fs vf) (hg : (W.alloc obj).grownBy W' vf.ownBlock) : Out (fun j => vf.ownBlock = some j) W W' := out_then (out_alloc (Out.refl _ _) _) (Out.of_grown hg (fun _ hk => hk))
theorem Cpt.push (h : Cpt w W bb m b b' L fs vf) (hg : (W.alloc obj).grownBy W' vf.ownBlock) (hn : W'.ownsRow w.heap.size 59 4 v' (fs.length + 1) (fV fs ++ [.int .i64 f.buyer, .int .i64 f.seller, .int .i64 f.price, .int .i64 f.qty])) : Cpt w W' bb m b b' L (fs ++ [f]) v' := by
  have h6 := h.pushed hg
  refine ⟨h.bk.out h6 (fun k hk e => h.bk.farAny h.fils (by decide) (by decide) (by decide) (by decide) (by decide) k e hk), h.lnk, ⟨h.since.1.trans h6 (fun k hk => Or.inr (h.fils.lt k hk).1), h.since.2⟩, ?_⟩
  rw [fV_snoc, List.length_append, List.length_singleton]; exact hn
theorem Cpt.boxO (h : Cpt w W bb m b b' L fs vf) (hg : Goes W W' bb m' b' b2) (hx : OrdAt W k x) : OrdAt W' k x := blk_out hx hg.2.1 (h.bk.farBox hx (by decide) (by decide) (by decide) (by decide) (by decide))
theorem Cpt.boxF (h : Cpt w W bb m b b' L fs vf) (hg : Goes W W' bb m' b' b2) (hx : FBox W k f) : FBox W' k f := blk_out hx hg.2.1 (h.bk.farBox hx (by decide) (by decide) (by decide) (by decide) (by decide))
theorem best_is (hl : Lnk b.S L) {s : Nat} (hs : s < 2) {T : List Ord} (h : sideO ((s : Int) + 1) L = x :: T) : bestV ((b.S s).map Ly.o) = .tuple #[.agg #[.int .i64 x.id, .int .i64 x.side, .int .i64 x.kind, .int .i64 x.price, .int .i64 x.qty], .nilIface] := by
  rw [hl.side s hs, h]; rfl
theorem lnk_wf (h : Bk w bb m b) (hl : Lnk b.S L) (hx : x ∈ L) : (Lit.int .i64 x.id).wf = true := by
  obtain ⟨s, hs, y, hy, rfl⟩ := hl.mem.1 hx
  exact (h.ok.ok s hs y hy).2.1
end
/-- Cut of lots that an order has -/
theorem cpCut_yes (bb m : Nat) (b : BkS) (L : List Ord) (o : Ord) (n : Int) (w : World) (h : Bk w bb m b) (hm : m + 1 ≤ 900) (hl : Lnk b.S L) (hok : LOk L) (ho : o ∈ L) (hn : 1 ≤ n ∧ n ≤ o.qty) :
    Calls Tryz.prog 28 #[.pointer (some ⟨bb, 0, none⟩), .int .i64 o.id, .int .i64 n] w fun e w' => ∃ err, e = .returned err ∧ ∃ b', Lnk b'.S (lessF o.id n L) ∧ Goes w w' bb (m + 1) b b' := by
  refine (prog_cut h hm hl o.id n (lnk_wf h hl ho)).mono ?_
  rintro e w' ⟨err, rfl, _, b', h1, h2⟩
  rw [(cut_is hok ho hn).1] at h1
  exact ⟨err, rfl, b', h1, h2⟩

set_option maxRecDepth 4000 in
set_option maxHeartbeats 8000000 in
theorem cpFills (bb m : Nat) (b : BkS) (L : List Ord) (p q : Int) (w : World) (h : Bk w bb m b) (hm : m ≤ 600) (hl : Lnk b.S L) (hok : LOk L) (hq : 1 ≤ q ∧ q ≤ min (wilL 1 p L) (wilL 2 p L)) :
    Calls Tryz.prog 7 #[.pointer (some ⟨bb, 0, none⟩), .int .i64 p, .int .i64 q] w fun e w' => ∃ (K : Nat) (vf : Value), e = .returned (.tuple #[vf, .nilIface]) ∧ (fiter p ⟨[], L, q⟩ K).q = 0 ∧ (∀ j, j < K → 0 < (fiter p ⟨[], L, q⟩ j).q) ∧ ∃ b', Cpt w w' bb (m + 2 * K) b b' (fiter p ⟨[], L, q⟩ K).L (fiter p ⟨[], L, q⟩ K).fs vf := by
  obtain ⟨iF, hiF, hF0, hF1, hF2⟩ := info_parts Tryz.infoFp
  have H : Hid (Bk w bb m b) := h
  have HL : Hid (Lnk b.S L) := hl
  have HK : Hid (LOk L) := hok
  have HF0 : Hid (FOk p ⟨[], L, q⟩) := ⟨hok, by show 0 ≤ q; omega, by show q ≤ wilL 1 p L; omega, by show q ≤ wilL 2 p L; omega⟩
  have hL100 : L.length ≤ 100 := lnk_few h.ok hl
  have hqs : q ≤ 100000000 := by have := wilL_in 1 p hok; omega
  have hq1 : ¬ q < 1 := by omega
  have hq2 : decide (q > min (wilL 1 p L) (wilL 2 p L)) = false := decide_eq_false (by omega)
  clear h hl hok hq
  go_enter Tryz.func7, Tryz.ntmps7
  go_wp2_with fail
  refine (cpWilling p w).mono ?_
  rintro e w1 ⟨rfl, rfl⟩
  have hb1 := bel1 w (.cells #[.int .i64 p] 3)
  have hp1 := heap_alloc_new w (.cells #[.int .i64 p] 3)
  generalize w.alloc (.cells #[.int .i64 p] 3) = w1 at hb1 hp1 ⊢
  have HB1 : Hid (Below w.heap.size w w1) := hb1
  have HP1 : Hid _ := hp1
  clear hb1 hp1
  go_wp2_with fail
  refine (cpLots bb m 0 b L p w.heap.size w1 (H.out.below HB1.out (Nat.le_refl _)) HL.out HK.out (by decide) 1 rfl HP1.out).mono ?_
  rintro e w2 ⟨rfl, hb2⟩
  have HB2 : Hid (Below w.heap.size w w2) := bel_then HB1.out hb2
  have HP2 : Hid _ := blk_below HP1.out hb2 (Nat.le_refl _)
  clear hb2
  go_wp2_with fail
  refine (cpLots bb m 1 b L p w.heap.size w2 (H.out.below HB2.out (Nat.le_refl _)) HL.out HK.out (by decide) 2 rfl HP2.out).mono ?_
  rintro e w3 ⟨rfl, hb3⟩
  have HB3 : Hid (Below w.heap.size w w3) := bel_then HB2.out hb3
  clear hb3
  go_wp2_with fail
  clear hq2 hq1
  go_loopw [2, 9, 10, 11, 12, 13, 14] (fun u2 u9 _ _ _ _ _ wr => ∃ (k : Nat) (b' : BkS), u2 = .int .i64 (fiter p ⟨[], L, q⟩ k).q ∧ (∀ j, j < k → 0 < (fiter p ⟨[], L, q⟩ j).q) ∧ (fiter p ⟨[], L, q⟩ k).fs.length = k ∧ (k : Int) + (fiter p ⟨[], L, q⟩ k).q ≤ q ∧ Cpt w wr bb (m + 2 * k) b b' (fiter p ⟨[], L, q⟩ k).L (fiter p ⟨[], L, q⟩ k).fs u9) (fun u2 _ _ _ _ _ _ _ => (intOf u2).toNat)
  case atStart => exact ⟨0, b, rfl, fun j hj => absurd hj (by omega), rfl, by show (0 : Int) + q ≤ q; omega, H.out.below HB3.out (Nat.le_refl _), HL.out, (Since.refl _ _ _).below HB3.out, World.ownsRow_nil _ _ _ _⟩
  case round =>
    obtain ⟨k, b', rfl, hj, hfl, hkq, hC⟩ := hrel
    have HJ : Hid (∀ j, j < k → 0 < (fiter p ⟨[], L, q⟩ j).q) := hj
    have HFO : Hid (FOk p (fiter p ⟨[], L, q⟩ k)) := fiter_ok HF0.out k hj
    have hq0 := HFO.out.nn
    have HC : Hid (Cpt w wr bb (m + 2 * k) b b' (fiter p ⟨[], L, q⟩ k).L (fiter p ⟨[], L, q⟩ k).fs u9) := hC
    obtain ⟨fa, fc, rfl, _, _⟩ := owns_shape hC.fils
    have HFL : Hid ((fiter p ⟨[], L, q⟩ k).fs.length = k) := hfl
    clear hj hfl
    by_cases hq1 : 0 < (fiter p ⟨[], L, q⟩ k).q
    · have HST : Hid (fiter p ⟨[], L, q⟩ (k + 1) = fstep p (fiter p ⟨[], L, q⟩ k)) := rfl
      have HJ2 : Hid (∀ j, j < k + 1 → 0 < (fiter p ⟨[], L, q⟩ j).q) := fun j hj => by
        by_cases e : j = k
        · subst e; exact hq1
        · exact HJ.out j (by omega)
      have hfew : k + (fiter p ⟨[], L, q⟩ k).L.length ≤ L.length := fiter_few HF0.out k HJ2.out
      obtain ⟨⟨x, T, y, U, hS1, hS2, hbx, hby, hxL, hyL, hy1, n1, n2, n3, n4, c1, hL2, c2, c4, ok1⟩, hFO2⟩ := fstep_ok HFO.out hq1
      generalize fiter p ⟨[], L, q⟩ k = s at *
      have HLN : Hid (lotN s = min x.qty (min y.qty s.q)) := by show lotN s = _; unfold lotN; rw [hbx, hby]; omega
      have HFS : Hid ((fstep p s).fs = s.fs ++ [⟨x.id, y.id, p, lotN s⟩] ∧ (fstep p s).q = s.q - lotN s) := ⟨by show s.fs ++ [_] = _; rw [hbx, hby], rfl⟩
      have HBX : Hid (bestV ((b'.S 0).map Ly.o) = .tuple #[.agg #[.int .i64 x.id, .int .i64 x.side, .int .i64 x.kind, .int .i64 x.price, .int .i64 x.qty], .nilIface]) := best_is hC.lnk (by decide) hS1
      have HBY : Hid (bestV ((b'.S 1).map Ly.o) = .tuple #[.agg #[.int .i64 y.id, .int .i64 y.side, .int .i64 y.kind, .int .i64 y.price, .int .i64 y.qty], .nilIface]) := best_is hC.lnk (by decide) hS2
      have HM : Hid (x ∈ s.L ∧ y ∈ lessF x.id (lotN s) s.L ∧ LOk (lessF x.id (lotN s) s.L) ∧ (fstep p s).L = lessF y.id (lotN s) (lessF x.id (lotN s) s.L) ∧ lotN s ≤ x.qty ∧ lotN s ≤ y.qty) := ⟨hxL, hy1, ok1, hL2, n3, n4⟩
      have px := HFO.out.ok.ok x hxL
      have py := HFO.out.ok.ok y hyL
      have hxs : (x.side == 2) = false := by
        have : x ∈ sideO 1 s.L := by rw [hS1]; exact List.mem_cons_self ..
        rw [(sideO_mem.1 this).2]; rfl
      clear hS1 hS2 hbx hby hxL hyL hy1 c1 hL2 c2 c4 ok1 n3 n4 HJ hC
      go_wp2_with fail
      refine (pbBest bb (m + 2 * k) 0 b' wr HC.out.bk (by decide) 1 rfl).mono ?_
      rintro e w4 ⟨rfl, hb4⟩
      rw [HBX.out]
      have HC4 : Hid _ := HC.out.below hb4
      clear hb4 HC
      go_wp2_with fail
      have hb5 := bel1 w4 (.cells #[.int .i64 x.id, .int .i64 x.side, .int .i64 x.kind, .int .i64 x.price, .int .i64 x.qty] 40)
      have hx5 := heap_alloc_new w4 (.cells #[.int .i64 x.id, .int .i64 x.side, .int .i64 x.kind, .int .i64 x.price, .int .i64 x.qty] 40)
      generalize w4.alloc (.cells #[.int .i64 x.id, .int .i64 x.side, .int .i64 x.kind, .int .i64 x.price, .int .i64 x.qty] 40) = w5 at hb5 hx5 ⊢
      have HC5 : Hid _ := HC4.out.below hb5
      clear hb5 HC4
      refine (pbBest bb (m + 2 * k) 1 b' w5 HC5.out.bk (by decide) 2 rfl).mono ?_
      rintro e w6 ⟨rfl, hb6⟩
      rw [HBY.out]
      have HC6 : Hid _ := HC5.out.below hb6
      have hx6 := blk_below hx5 hb6 (Nat.le_refl _)
      clear hb6 HC5 hx5
      have HX6 : Hid _ := hx6
      clear hx6
      have hne : ∀ j, (Value.slice fa s.fs.length fc).ownBlock = some j → j < w6.heap.size := fun j hj => (HC6.out.fils.lt j hj).2
      have HNE : Hid _ := hne
      clear hne
      go_upto_region 8 with fail
      have hb7 := bel1 w6 (.cells #[.int .i64 y.id, .int .i64 y.side, .int .i64 y.kind, .int .i64 y.price, .int .i64 y.qty] 40)
      have hy7 := heap_alloc_new w6 (.cells #[.int .i64 y.id, .int .i64 y.side, .int .i64 y.kind, .int .i64 y.price, .int .i64 y.qty] 40)
      generalize w6.alloc (.cells #[.int .i64 y.id, .int .i64 y.side, .int .i64 y.kind, .int .i64 y.price, .int .i64 y.qty] 40) = w7 at hb7 hy7 ⊢
      have HC7 : Hid _ := HC6.out.below hb7
      have hx7 := blk_below HX6.out hb7 (Nat.le_refl _)
      have hz7 : w6.heap.size ≤ w7.heap.size := hb7.size
      have x0 := blk_cell (j := 0) hx7 rfl
      have x1 := blk_cell (j := 1) hx7 rfl
      have x2 := blk_cell (j := 2) hx7 rfl
      have x3 := blk_cell (j := 3) hx7 rfl
      have x4 := blk_cell (j := 4) hx7 rfl
      have y0 := blk_cell (j := 0) hy7 rfl
      have y1 := blk_cell (j := 1) hy7 rfl
      have y2 := blk_cell (j := 2) hy7 rfl
      have y3 := blk_cell (j := 3) hy7 rfl
      have y4 := blk_cell (j := 4) hy7 rfl
      clear hb7 hx7 hy7 HX6 HC6
      generalize w4.heap.size = xb at *
      generalize w6.heap.size = yb at *
      go_wp2_with fail
      refine (cpBetween1 x y p w7 hxs).mono ?_
      rintro e w8 ⟨rfl, hb8⟩
      have HC8 : Hid _ := HC7.out.below hb8
      have hz8 : w7.heap.size ≤ w8.heap.size := hb8.size
      clear hb8 HC7 x0 x1 x2 x3 x4 y0 y1 y2 y3 y4
      go_upto_region 9 with fail
      have hb9 := bel1 w8 (.cells #[.int .i64 x.id, .int .i64 y.id, .int .i64 p, .int .i64 (min x.qty y.qty)] 59)
      have hf9 := heap_alloc_new w8 (.cells #[.int .i64 x.id, .int .i64 y.id, .int .i64 p, .int .i64 (min x.qty y.qty)] 59)
      generalize w8.alloc (.cells #[.int .i64 x.id, .int .i64 y.id, .int .i64 p, .int .i64 (min x.qty y.qty)] 59) = w9 at hb9 hf9 ⊢
      have f3 := blk_cell (j := 3) hf9 rfl
      have ff3 := blk_free (j := 3) hf9
      have HF9 : Hid _ := hf9
      have HB9 : Hid _ := hb9
      clear hf9 hb9
      go_upto_region 10 with fail
      have hb10 := HB9.out.setCell (p := ⟨w8.heap.size, 3, none⟩) (Nat.le_refl _) (.int .i64 (min x.qty (min y.qty s.q)))
      have hf10 : FBox (w9.setCell ⟨w8.heap.size, 3, none⟩ (.int .i64 (min x.qty (min y.qty s.q)))) w8.heap.size ⟨x.id, y.id, p, min x.qty (min y.qty s.q)⟩ := blk_set (j := 3) (.int .i64 (min x.qty (min y.qty s.q))) HF9.out
      generalize w9.setCell ⟨w8.heap.size, 3, none⟩ (.int .i64 (min x.qty (min y.qty s.q))) = w10 at hb10 hf10 ⊢
      have HC10 : Hid _ := HC8.out.below hb10
      have hnb : (Value.slice fa s.fs.length fc).ownBlock ≠ some w8.heap.size := fun e => by have := HNE.out _ e; omega
      have HNB : Hid _ := hnb
      clear hb10 HC8 HB9 HF9 f3 ff3 hnb HNE hz7 hz8
      generalize w8.heap.size = fb at *
      have HF10 : Hid (FBox w10 fb ⟨x.id, y.id, p, min x.qty (min y.qty s.q)⟩) := hf10
      have f0 : w10.cell? ⟨fb, 0, none⟩ = some (.int .i64 x.id) := blk_cell (j := 0) hf10 rfl
      have f3 : w10.cell? ⟨fb, 3, none⟩ = some (.int .i64 (min x.qty (min y.qty s.q))) := blk_cell (j := 3) hf10 rfl
      rw [HLN.out] at HFS HM n1 n2
      clear hf10
      go_wp2_with fail
      refine (cpCut_yes bb (m + 2 * k) b' s.L x (min x.qty (min y.qty s.q)) w10 HC10.out.bk (by omega) HC10.out.lnk HFO.out.ok HM.out.1 ⟨n1, HM.out.2.2.2.2.1⟩).mono ?_
      rintro e w11 ⟨err1, rfl, b1, hl1, hg1⟩
      have hf11 := HC10.out.boxF hg1 HF10.out
      have HC11 : Hid _ := HC10.out.goes hg1 hl1
      have HF11 : Hid (FBox w11 fb ⟨x.id, y.id, p, min x.qty (min y.qty s.q)⟩) := hf11
      clear f0 f3 hl1 hg1 HC10 HF10
      have f1 : w11.cell? ⟨fb, 1, none⟩ = some (.int .i64 y.id) := blk_cell (j := 1) hf11 rfl
      have f3 : w11.cell? ⟨fb, 3, none⟩ = some (.int .i64 (min x.qty (min y.qty s.q))) := blk_cell (j := 3) hf11 rfl
      clear hf11
      go_wp2_with fail
      refine (cpCut_yes bb (m + 2 * k + 1) b1 (lessF x.id (min x.qty (min y.qty s.q)) s.L) y (min x.qty (min y.qty s.q)) w11 HC11.out.bk (by omega) HC11.out.lnk HM.out.2.2.1 HM.out.2.1 ⟨n1, HM.out.2.2.2.2.2⟩).mono ?_
      rintro e w12 ⟨err2, rfl, b2, hl2, hg2⟩
      have hf12 := HC11.out.boxF hg2 HF11.out
      have HC12 : Hid _ := HC11.out.goes hg2 hl2
      have HF12 : Hid (FBox w12 fb ⟨x.id, y.id, p, min x.qty (min y.qty s.q)⟩) := hf12
      clear f1 f3 hl2 hg2 HC11 HF11
      have g0 : w12.cell? ⟨fb, 0, none⟩ = some (.int .i64 x.id) := blk_cell (j := 0) hf12 rfl
      have g1 : w12.cell? ⟨fb, 1, none⟩ = some (.int .i64 y.id) := blk_cell (j := 1) hf12 rfl
      have g2 : w12.cell? ⟨fb, 2, none⟩ = some (.int .i64 p) := blk_cell (j := 2) hf12 rfl
      have g3 : w12.cell? ⟨fb, 3, none⟩ = some (.int .i64 (min x.qty (min y.qty s.q))) := blk_cell (j := 3) hf12 rfl
      clear hf12
      have hln : s.fs.length ≤ 100 := by have := HFL.out; omega
      have hwz : w.heap.size ≤ w12.heap.size := HC12.out.since.1.size
      go_wp2_with (at_builtin; refine wpList_append_own_at _ rfl _ _ 27 rfl w.heap.size 59 iF (.agg #[.int .i64 0, .int .i64 0, .int .i64 0, .int .i64 0]) 4 32 Tryz.underlying27 hiF hF0 hF1 hF2 rfl (by decide) _ s.fs.length (fV s.fs) rfl (HC12.out.fils.alloc _) ⟨w12.heap.size, 0, none⟩ 1 1 [.int .i64 x.id, .int .i64 y.id, .int .i64 p, .int .i64 (min x.qty (min y.qty s.q))] rfl rfl (World.news_of_block (cs := #[.int .i64 x.id, .int .i64 y.id, .int .i64 p, .int .i64 (min x.qty (min y.qty s.q))]) (t := 59) (fr := (0, 0)) (heap_alloc_new w12 _)) (by simp [Value.oneCell']) (by unfold maxLen; omega) (by omega) (by simp; omega) ?_; intro v13 w13 hown13 hgrow13 _ _; have f13 := blk_out HF12.out (HC12.out.pushed hgrow13) HNB.out; have c13 : w13.cell? ⟨fb, 3, none⟩ = some (.int .i64 (min x.qty (min y.qty s.q))) := blk_cell (j := 3) f13 rfl; have HC13 : Hid _ := HC12.out.push (f := ⟨x.id, y.id, p, min x.qty (min y.qty s.q)⟩) hgrow13 hown13; clear f13 hown13 hgrow13 g0 g1 g2 g3)
      go_roundw
      case rel =>
        have hk0 : s.fs.length = k := HFL.out
        refine ⟨k + 1, b2, ?_, HJ2.out, ?_, ?_, ?_⟩
        · rw [HST.out, HFS.out.2]; try go_num
        · rw [HST.out, HFS.out.1, List.length_append, List.length_singleton, hk0]
        · rw [HST.out, HFS.out.2]; omega
        · rw [HST.out, HFS.out.1, HM.out.2.2.2.1]; exact HC13.out
      case measure => simp [RowKit.intOf]; omega
    · go_wp2_with fail
      go_ret2
      exact ⟨k, _, rfl, by omega, HJ.out, b', HC.out⟩
end Go.Proofs.YtcoijhofliilmabGreatDoor

/-
  The law CrossFills, walked: both books of one list, Fills of both. Conditions stand in each theorem.
-/
namespace Go.Proofs.YtcoijhofliilmabGreatDoor
open Go.RowKit

theorem fiter_one {p : Int} {s : FS} {K K' : Nat} (h : (fiter p s K).q = 0) (hj : ∀ j, j < K → 0 < (fiter p s j).q) (h' : (fiter p s K').q = 0) (hj' : ∀ j, j < K' → 0 < (fiter p s j).q) : K' = K := by
  rcases Nat.lt_trichotomy K K' with e | e | e
  · have := hj' K e; omega
  · exact e.symm
  · have := hj K' e; omega
theorem fiter_len (p : Int) (s : FS) : ∀ k, (fiter p s k).fs.length = s.fs.length + k
  | 0 => rfl
  | k + 1 => by
    show ((fiter p s k).fs ++ [_]).length = _
    rw [List.length_append, fiter_len p s k, List.length_singleton]; omega

set_option maxRecDepth 4000 in
set_option maxHeartbeats 4000000 in
theorem fills_no (a : Option Addr) (cap : Nat) (l : List Ord) (p q : Int) (w : World) (h : LdIn w a l) (hl : l.length ≤ 100) (hE : ErrT w) (hid : ∀ o ∈ l, (Lit.int .i64 o.id).wf = true) (hno : ¬ (1 ≤ q ∧ q ≤ min (wilL 1 p (laidL l)) (wilL 2 p (laidL l)))) :
    Calls Tryz.prog 3 #[.slice a l.length cap, .int .i64 p, .int .i64 q] w fun e w' => e = .returned (.bool true) ∧ Below w.heap.size w w' := by
  have HA : Hid (LdIn w a l) := h
  have HE : Hid (ErrT w) := hE
  have HI : Hid (∀ o ∈ l, (Lit.int .i64 o.id).wf = true) := hid
  have HN : Hid _ := hno
  have hn : ¬ (100 : Int) < (l.length : Int) := by omega
  have k1 : decide ((l.length : Int) > 100) = false := decide_eq_false (by omega)
  clear h hE hid hno
  go_enter Tryz.func3, Tryz.ntmps3
  go_wp2_with fail
  refine (crLaid a cap l w HA.out hl HE.out HI.out).mono ?_
  rintro e w1 ⟨rb, m, b, v, rfl, hm, hP, hK⟩
  have HP : Hid (Pair w w1 (w.heap.size + 2) rb m b v (laidL l)) := hP
  have HK : Hid (Lnk b.S (laidL l)) := hK
  have HO : Hid (LOk (laidL l)) := lok_of hP.my.bk hK
  have hL : (laidL l).length ≤ 100 := lnk_few hP.my.bk.ok hK
  generalize laidL l = L at *
  clear hP hK HA HI HE k1
  go_wp2_with fail
  refine (bkFills_no w.heap.size rb v L p q w1 HP.out.ref hL HO.out HN.out).mono ?_
  rintro e w2 ⟨rfl, hb2⟩
  have HP2 : Hid _ := HP.out.below hb2
  clear hb2 HP
  go_wp2_with fail
  refine (cpFills_no (w.heap.size + 2) m b L p q w2 HP2.out.my.bk HK.out HO.out HN.out).mono ?_
  rintro e w3 ⟨rfl, hb3⟩
  have HP3 : Hid _ := HP2.out.below hb3
  clear hb3 HP2
  go_wp2_with fail
  refine (bare_yes _ _ w3 HP3.out.errT (ErrVal.is (Or.inr rfl) _)).mono ?_
  rintro e w4 ⟨rfl, hb4⟩
  have HP4 : Hid _ := HP3.out.below hb4
  clear hb4 HP3
  go_wp2_with fail
  refine (cfSame none none 0 0 [] w4 (fun k hk => absurd hk (by simp)) (fun k hk => absurd hk (by simp)) (by simp)).mono ?_
  rintro e w5 ⟨rfl, hb5⟩
  have HP5 : Hid _ := HP4.out.below hb5
  clear hb5 HP4
  go_wp2_with fail
  refine (same_yes _ rb _ _ b v L _ HP5.out.my.bk HP5.out.ref HK.out HP5.out.errT).mono ?_
  rintro e w6 ⟨rfl, hb6⟩
  have HP6 : Hid _ := HP5.out.below hb6
  clear hb6 HP5
  go_wp2_with fail
  go_ret
  exact ⟨rfl, HP6.out.my.bel⟩

set_option maxRecDepth 4000 in
set_option maxHeartbeats 4000000 in
theorem fills_yes (a : Option Addr) (cap : Nat) (l : List Ord) (p q : Int) (w : World) (h : LdIn w a l) (hl : l.length ≤ 100) (hE : ErrT w) (hid : ∀ o ∈ l, (Lit.int .i64 o.id).wf = true) (hyes : 1 ≤ q ∧ q ≤ min (wilL 1 p (laidL l)) (wilL 2 p (laidL l))) :
    Calls Tryz.prog 3 #[.slice a l.length cap, .int .i64 p, .int .i64 q] w fun e w' => e = .returned (.bool true) ∧ Below w.heap.size w w' := by
  have HA : Hid (LdIn w a l) := h
  have HE : Hid (ErrT w) := hE
  have HI : Hid (∀ o ∈ l, (Lit.int .i64 o.id).wf = true) := hid
  have HN : Hid _ := hyes
  have k1 : decide ((l.length : Int) > 100) = false := decide_eq_false (by omega)
  clear h hE hid hyes
  go_enter Tryz.func3, Tryz.ntmps3
  go_wp2_with fail
  refine (crLaid a cap l w HA.out hl HE.out HI.out).mono ?_
  rintro e w1 ⟨rb, m, b, v, rfl, hm, hP, hK⟩
  have HP : Hid (Pair w w1 (w.heap.size + 2) rb m b v (laidL l)) := hP
  have HK : Hid (Lnk b.S (laidL l)) := hK
  have HO : Hid (LOk (laidL l)) := lok_of hP.my.bk hK
  have hL : (laidL l).length ≤ 100 := lnk_few hP.my.bk.ok hK
  generalize laidL l = L at *
  have HQB : Hid (q ≤ 100000000) := by have h1 := wilL_in 1 p HO.out; have h2 := HN.out; show q ≤ 100000000; omega
  clear hP hK HA HI HE k1
  go_wp2_with fail
  refine (bkFills w.heap.size rb v L p q w1 HP.out.ref HP.out.my.bel.size hL HO.out HN.out).mono ?_
  rintro e w2 ⟨K, vf, v2, rfl, hq0, hj0, hrow, hbk, hout⟩
  have HP2 : Hid _ := HP.out.doc hout hbk
  have HR2 : Hid _ := hrow
  have HQ : Hid _ := And.intro hq0 hj0
  obtain ⟨fa, fc, rfl, _, _⟩ := owns_shape hrow
  clear hrow hbk hout hq0 hj0 HP
  go_wp2_with fail
  refine (cpFills (w.heap.size + 2) m b L p q w2 HP2.out.my.bk (by omega) HK.out HO.out HN.out).mono ?_
  rintro e w3 ⟨K', vg, rfl, hq1, hj1, b', hC⟩
  obtain rfl : K' = K := fiter_one HQ.out.1 HQ.out.2 hq1 hj1
  have HL3 : Hid (Lnk b'.S (fiter p ⟨[], L, q⟩ K').L) := hC.lnk
  have HR3 : Hid _ := owns_out HR2.out hC.since.1 (HP2.out.my.bk.farAny HR2.out (by decide) (by decide) (by decide) (by decide) (by decide))
  have HG3 : Hid _ := hC.fils
  have HP3 : Hid _ := HP2.out.goes (m' := m + 2 * K') ⟨hC.bk, hC.since.1, hC.since.2⟩
  obtain ⟨ga, gc, rfl, _, _⟩ := owns_shape hC.fils
  have hlen : (fiter p ⟨[], L, q⟩ K').fs.length ≤ 1000000000 := by
    have h1 := fiter_len p ⟨[], L, q⟩ K'
    have h2 := HP3.out.my.bk.steps
    have h3 : ([] : List Fil).length = 0 := rfl
    simp only at h1
    omega
  clear hC hq1 hj1 HP2 HR2
  generalize fiter p ⟨[], L, q⟩ K' = s at *
  go_wp2_with fail
  refine (bare_yes _ _ w3 HP3.out.errT (ErrVal.is (Or.inl ⟨rfl, rfl⟩) _)).mono ?_
  rintro e w4 ⟨rfl, hb4⟩
  have HP4 : Hid _ := HP3.out.below hb4
  have HR4 : Hid _ := owns_below HR3.out hb4 (Nat.le_refl _)
  have HG4 : Hid _ := owns_below HG3.out hb4 (Nat.le_refl _)
  clear hb4 HP3 HR3 HG3
  go_wp2_with fail
  obtain ⟨fa', fc', e1, hf1⟩ := FilsIn.of_row HR4.out
  obtain ⟨ga', gc', e2, hf2⟩ := FilsIn.of_row HG4.out
  injection e1 with e1 _ e3
  injection e2 with e2 _ e4
  subst e1 e2 e3 e4
  refine (cfSame ga fa gc fc s.fs w4 hf2 hf1 hlen).mono ?_
  rintro e w5 ⟨rfl, hb5⟩
  have HP5 : Hid _ := HP4.out.below hb5
  clear hb5 HP4 hf1 hf2
  go_wp2_with fail
  refine (same_yes _ rb _ _ b' v2 s.L _ HP5.out.my.bk HP5.out.ref HL3.out HP5.out.errT).mono ?_
  rintro e w6 ⟨rfl, hb6⟩
  have HP6 : Hid _ := HP5.out.below hb6
  clear hb6 HP5
  go_wp2_with fail
  go_ret
  exact ⟨rfl, HP6.out.my.bel⟩
end Go.Proofs.YtcoijhofliilmabGreatDoor

/-
  An argument that is a list of structs of whole numbers, taken apart: it has no element, or all lie in one block, each number an int. No conditions beyond the reading itself.
-/
namespace Go.Proofs.YtcoijhofliilmabGreatDoor
open Go.ChangeShapes Go.WideShapes Go.ChangeAt Go.RowKit Go.Deep

theorem script_open {H : Type} {enc : TypeId × Value → H} {P : Program} {W : World} {t e : TypeId} {fs : Array Field} {a0 : Option Addr} {len cap : Nat} {d : DataW H} {ps : List MemPlace} (ht : P.underlying t = some (.slice e)) (hs : P.underlying e = some (.struct fs))
    (hone : ∀ (i : Nat) (f : Field), fs[i]? = some f → f.offset = i ∧ P.cellsOf f.type = 1) (hC : P.cellsOf e = fs.size) (hint : ∀ (i : Nat) (f : Field), fs[i]? = some f → P.underlying f.type = some (.int .i64)) (hpos : 0 < fs.size)
    (h : DataW.Trod enc P W 0 (fun _ => true) true t (.slice a0 len cap) d ps) :
    len = 0 ∨ ∃ (b off : Nat) (X : Nat → Nat → Int), a0 = some ⟨b, off, none⟩ ∧ ∀ i, i < len → ∀ j, j < fs.size → W.cell? ⟨b, off + i * fs.size + j, none⟩ = some (.int .i64 (X i j)) ∧ (Lit.int .i64 (X i j)).wf = true := by
  obtain ⟨fuel, hf⟩ := h
  rcases open_slice ht hf with ⟨hcs, _⟩ | ⟨a, len', cap', m, n, D, Pl, hcs, _, hl, _, hmm, _, hi⟩
  · simp [Value.cells] at hcs
    exact Or.inl hcs.2.1
  simp [Value.cells] at hcs
  obtain ⟨rfl, rfl, rfl⟩ := hcs
  simp only [if_true] at hmm
  subst hmm
  by_cases h0 : len = 0
  · exact Or.inl h0
  right
  obtain ⟨b, off, spot⟩ := a
  have each : ∀ i, i < len → ∃ f : Nat → Int, ∀ j, j < fs.size → W.cell? (((⟨b, off, spot⟩ : Addr).add (i * fs.size)).add j) = some (.int .i64 (f j)) ∧ (Lit.int .i64 (f j)).wf = true := by
    intro i hil
    obtain ⟨cs, hc, ht'⟩ := hi i (by omega)
    obtain ⟨_, hlen, hcell⟩ := World.cells?_some hc
    rw [hC] at hlen hcell
    obtain ⟨xs, n', _, _, _, hxl, hfl⟩ := DataW.trod_struct hs ht'
    refine choose_lt (p := fun j z => W.cell? (((⟨b, off, spot⟩ : Addr).add (i * fs.size)).add j) = some (.int .i64 z) ∧ (Lit.int .i64 z).wf = true) fun j hj => ?_
    have hfj : fs[j]? = some fs[j] := Array.getElem?_eq_getElem hj
    obtain ⟨ho, hc1⟩ := hone j _ hfj
    have g := hfl j _ hfj
    rw [ho, hc1, take1_drop cs j undef (by omega), List.getElem?_eq_getElem (by omega)] at g
    obtain ⟨z, e1, _, w1⟩ := DataW.trod_int (hint j _ hfj) g
    have h1 := hcell j hj
    rw [List.getElem?_eq_getElem (by omega)] at h1
    simp only [List.cons.injEq, and_true] at e1
    rw [List.getD_eq_getElem?_getD, List.getElem?_eq_getElem (by omega), Option.getD_some] at e1
    exact ⟨z, by rw [h1, e1], w1⟩
  obtain ⟨X, hX⟩ := choose_lt (p := fun i (f : Nat → Int) => ∀ j, j < fs.size → W.cell? (((⟨b, off, spot⟩ : Addr).add (i * fs.size)).add j) = some (.int .i64 (f j)) ∧ (Lit.int .i64 (f j)).wf = true) each
  have hspot : spot = none := by simpa [Addr.add] using World.cell?_spot (hX 0 (by omega) 0 hpos).1
  subst hspot
  refine ⟨b, off, X, rfl, fun i hil j hj => ?_⟩
  have := hX i hil j hj
  rwa [add_plain, add_plain] at this
end Go.Proofs.YtcoijhofliilmabGreatDoor

/-
  An argument that is a list of orders, taken apart: they lie one behind the other from an address on, each number an int. No conditions beyond the reading itself.
-/
namespace Go.Proofs.YtcoijhofliilmabGreatDoor
open Go.ChangeShapes Go.WideShapes Go.ChangeAt Go.RowKit

def cfAllInt (P : Program) (fs : Array Field) : Bool := (List.range fs.size).all fun i => match fs[i]? with
  | some f => (match P.underlying f.type with | some (.int .i64) => true | _ => false)
  | none => false
theorem cfHint_of {P : Program} {fs : Array Field} (h : cfAllInt P fs = true) : ∀ (i : Nat) (f : Field), fs[i]? = some f → P.underlying f.type = some (.int .i64) := by
  intro i f hi
  have hlt : i < fs.size := (Array.getElem?_eq_some_iff.1 hi).1
  have := List.all_eq_true.1 h i (List.mem_range.2 hlt)
  simp only [hi] at this
  split at this
  · assumption
  · cases this
theorem ld_open {H : Type} {enc : TypeId × Value → H} {W : World} {a0 : Option Addr} {len cap : Nat} {d : DataW H} {ps : List MemPlace} (h : DataW.Trod enc Tryz.prog W 0 (fun _ => true) true 22 (.slice a0 len cap) d ps) :
    ∃ l : List Ord, l.length = len ∧ LdIn W a0 l ∧ ∀ o ∈ l, (Lit.int .i64 o.id).wf = true := by
  have h' := script_open Tryz.underlying22 Tryz.underlying40 (Deep.hone_of (by kernel_rfl)) (by kernel_rfl) (cfHint_of (by kernel_rfl)) (by decide) h
  rcases h' with rfl | ⟨b, off, X, rfl, hX⟩
  · exact ⟨[], rfl, fun k hk => by simp at hk, fun o ho => by cases ho⟩
  · have hX' : ∀ i, i < len → ∀ j, j < 5 → W.cell? ⟨b, off + i * 5 + j, none⟩ = some (.int .i64 (X i j)) ∧ (Lit.int .i64 (X i j)).wf = true := hX
    refine ⟨(List.range len).map fun i => ⟨X i 0, X i 1, X i 2, X i 3, X i 4⟩, by simp, fun k hk => ?_, fun o ho => ?_⟩
    · have hk' : k < len := by simpa using hk
      have e : oAt ((List.range len).map fun i => (⟨X i 0, X i 1, X i 2, X i 3, X i 4⟩ : Ord)) k = ⟨X k 0, X k 1, X k 2, X k 3, X k 4⟩ := by simp [oAt, hk']
      rw [e]
      exact ⟨b, off, rfl, (hX' k hk' 0 (by decide)).1, (hX' k hk' 1 (by decide)).1, (hX' k hk' 2 (by decide)).1, (hX' k hk' 3 (by decide)).1, (hX' k hk' 4 (by decide)).1⟩
    · obtain ⟨i, hi, rfl⟩ := List.mem_map.1 ho
      exact (hX' i (List.mem_range.1 hi) 0 (by decide)).2
end Go.Proofs.YtcoijhofliilmabGreatDoor

/-
  What the row's list of package variables gives: the cell of errors.errorType holds the handle of the type error (ErrT); and the closed facts on the program that every row of this seat asks.
-/
namespace Go.Proofs.YtcoijhofliilmabGreatDoor
open Go.RowKit

theorem Tryz.own : ownKnob Tryz.prog.godebug = none := by kernel_rfl
theorem Tryz.et : Tryz.prog.globalNamed "errors.errorType" = some 0 := by kernel_rfl
/-- the name of the dynamic type that the row lays in errors.errorType -/
def rtName : String := match (Rows.laid_errors_errorType : DataW Unit) with | .iface n _ => n | _ => default
theorem Tryz.rt : (Tryz.prog.cutTypes.find? (·.1 == rtName)).map (·.2) = some 150 := by kernel_rfl
theorem Tryz.oneRow : ((List.range 205).filter fun t => Tryz.prog.rowNamed t [101, 114, 114, 111, 114]) = [32] := by kernel_rfl
theorem Tryz.size : Tryz.prog.types.size = 205 := by kernel_rfl

def laidList : List (String × DataW Unit) := [("errors.errorType", Rows.laid_errors_errorType)]

theorem errT_of_laid {W : World} (h : laidMetH Tryz.prog laidList W) : ErrT W := by
  have h' : laidMet Tryz.prog [] W ∧ handlesMet Tryz.prog laidList W := h
  obtain ⟨name, u, ty, e1, e2, e3, e4, e5⟩ := h'.2 _ (List.mem_singleton.2 rfl)
  have en : name = [101, 114, 114, 111, 114] := (Option.some.inj e1).symm
  subst en
  obtain rfl := Option.some.inj (Tryz.rt.symm.trans e2)
  have hm : ty ∈ (List.range 205).filter fun t => Tryz.prog.rowNamed t [101, 114, 114, 111, 114] := List.mem_filter.2 ⟨List.mem_range.2 (by rw [← Tryz.size]; exact e3), e4⟩
  rw [Tryz.oneRow] at hm
  obtain rfl := List.mem_singleton.1 hm
  have hh : typeHandle Tryz.prog 32 = .pointer (some ⟨1, 32, none⟩) := by kernel_rfl
  rw [hh] at e5
  simpa [ErrT] using World.var?_cell Tryz.et e5 0

/-- A world, the cell of errors.errorType laid. -/
def withErrT (w : World) : World := { w with heap := w.heap.modify 0 fun
  | .cells _ t frozen => .cells #[.iface 150 (.agg #[.pointer (some ⟨1, 32, none⟩)])] t frozen
  | o => o }
end Go.Proofs.YtcoijhofliilmabGreatDoor
