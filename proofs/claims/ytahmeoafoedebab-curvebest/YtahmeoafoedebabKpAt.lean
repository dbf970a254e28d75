/-
  What the keep's own 'willing' and 'at' return, over this seat's translation: how much would be bought, and sold, at a price. Conditions stand in each theorem: where the orders lie, and that each may be.
-/
import Derived.Test.YtahmeoafoedebabCuIn
namespace Go.Proofs.Ytahmeoafoedebab
open Go.RowKit

/-- would an order trade at a price? -/
def willB (p : Int) (o : Ord) : Bool := (o.kind == 2) || ((o.side == 1) && decide (p ≤ o.price)) || ((o.side == 2) && decide (o.price ≤ p))
theorem will_buys {p : Int} {o : Ord} (h : okO o = true) (hs : o.side = 1) : buysB p o = willB p o := by unfold buysB willB; rw [h, hs]; simp
theorem will_sells {p : Int} {o : Ord} (h : okO o = true) (hs : o.side = 2) : sellsB p o = willB p o := by unfold sellsB willB; rw [h, hs]; simp

set_option maxRecDepth 4000 in
set_option maxHeartbeats 1000000 in
theorem kpWilling (o : Ord) (p : Int) (w : World) (hs : o.side = 1 ∨ o.side = 2) :
    Calls Try.prog 25 #[.agg #[.int .i64 o.id, .int .i64 o.side, .int .i64 o.kind, .int .i64 o.price, .int .i64 o.qty], .int .i64 p] w fun e w' => e = .returned (.bool (willB p o)) ∧ Below w.heap.size w w' := by
  by_cases hk : o.kind = 2
  · have HW : Hid (willB p o = true) := by unfold willB; simp [hk]; exact trivial
    rw [hk]
    clear hk
    go_enter Try.func25, Try.ntmps25
    go_wp2
    go_ret
    exact ⟨by rw [HW.out]; rfl, cu_bel1 w _⟩
  · have hkb : (o.kind == 2) = false := beq_eq_false_iff_ne.2 hk
    rcases hs with hs | hs
    · by_cases hp : p ≤ o.price
      · have hw : willB p o = true := by unfold willB; simp [hs, hp]
        have HW : Hid (willB p o = true) := hw
        rw [hs]
        clear hk hs hw
        go_enter Try.func25, Try.ntmps25
        go_wp2
        go_ret
        exact ⟨by rw [HW.out]; rfl, cu_bel1 w _⟩
      · have hw : willB p o = false := by unfold willB; simp [hs, hp, hk]
        have HW : Hid (willB p o = false) := hw
        rw [hs]
        clear hk hs hw
        go_enter Try.func25, Try.ntmps25
        go_wp2
        go_ret
        exact ⟨by rw [HW.out]; rfl, cu_bel1 w _⟩
    · by_cases hp : o.price ≤ p
      · have hw : willB p o = true := by unfold willB; simp [hs, hp]
        have HW : Hid (willB p o = true) := hw
        rw [hs]
        clear hk hs hw
        go_enter Try.func25, Try.ntmps25
        go_wp2
        go_ret
        exact ⟨by rw [HW.out]; rfl, cu_bel1 w _⟩
      · have hw : willB p o = false := by unfold willB; simp [hs, hp, hk]
        have HW : Hid (willB p o = false) := hw
        rw [hs]
        clear hk hs hw
        go_enter Try.func25, Try.ntmps25
        go_wp2
        go_ret
        exact ⟨by rw [HW.out]; rfl, cu_bel1 w _⟩

set_option maxRecDepth 4000 in
set_option maxHeartbeats 4000000 in
theorem kpAt (a : Option Addr) (cap : Nat) (l : List Ord) (p : Int) (w : World) (h : OrdsIn w a l) (hl : l.length ≤ 1000) (hok : ∀ o ∈ l, okO o = true) :
    Calls Try.prog 9 #[.slice a l.length cap, .int .i64 p] w fun e w' => e = .returned (.tuple #[.int .i64 (demO p l), .int .i64 (supO p l)]) ∧ Below w.heap.size w w' := by
  have HA : Hid (OrdsIn w a l) := h
  have HOK : Hid (∀ o ∈ l, okO o = true) := hok
  clear h hok
  go_enter Try.func9, Try.ntmps9
  go_wp2_with fail
  go_loopw [6, 7, 8] (fun vb vs i wr => ∃ k : Nat, k ≤ l.length ∧ i = .int .i64 k ∧ vb = .int .i64 (demO p (l.take k)) ∧ vs = .int .i64 (supO p (l.take k)) ∧ Below w.heap.size w wr) (fun _ _ i _ => l.length - (intOf i).toNat)
  case atStart => exact ⟨0, Nat.zero_le _, rfl, rfl, rfl, Below.refl _ _⟩
  case round =>
    obtain ⟨k, hk, rfl, rfl, rfl, hb⟩ := hrel
    have HB : Hid (Below w.heap.size w wr) := hb
    by_cases hk1 : k < l.length
    · have q0 : (0 : Int) ≤ (k : Int) := by omega
      have hlt : (k : Int) < (l.length : Int) := by omega
      obtain ⟨b, off, rfl, d0, d1, d2, d3, d4⟩ := HA.out.below hb k hk1
      clear hb
      have HDN : Hid (buysB p (oAt l k) = false → demO p (l.take (k + 1)) = demO p (l.take k)) := dem_no hk1
      have HDY : Hid (buysB p (oAt l k) = true → demO p (l.take (k + 1)) = demO p (l.take k) + (oAt l k).qty) := dem_yes hk1
      have HSN : Hid (sellsB p (oAt l k) = false → supO p (l.take (k + 1)) = supO p (l.take k)) := sup_no hk1
      have HSY : Hid (sellsB p (oAt l k) = true → supO p (l.take (k + 1)) = supO p (l.take k) + (oAt l k).qty) := sup_yes hk1
      have hdi := demO_in p (l.take k)
      have hsi := supO_in p (l.take k)
      have htl : (l.take k).length ≤ 1000 := by rw [List.length_take]; omega
      have ho := HOK.out (oAt l k) (by rw [oAt_eq hk1]; exact List.getElem_mem hk1)
      generalize oAt l k = o at d0 d1 d2 d3 d4 HDN HDY HSN HSY ho
      generalize demO p (l.take k) = dd at HDN HDY hdi ⊢
      generalize supO p (l.take k) = ss at HSN HSY hsi ⊢
      generalize (l.take k).length = tl at hdi hsi htl
      obtain ⟨⟨hs1, hs2⟩, hq1, hq2⟩ := okO_qty ho
      have hs : o.side = 1 ∨ o.side = 2 := by omega
      go_wp2_with fail
      refine (kpWilling o p _ hs).mono ?_
      rintro e w3 ⟨rfl, hb3⟩
      have c1 := cu_cell hb3 d1
      have c4 := cu_cell hb3 d4
      have HB3 : Hid (Below w.heap.size w w3) := cu_then HB.out hb3
      clear hb3 HB d0 d1 d2 d3 d4
      rcases hs with hs | hs
      · have HSX : Hid (supO p (l.take (k + 1)) = ss) := HSN.out (sells_side hs)
        have hwb := will_buys (p := p) ho hs
        rw [hs] at c1
        cases hw : willB p o with
        | true =>
          have HDX : Hid (demO p (l.take (k + 1)) = dd + o.qty) := HDY.out (hwb.trans hw)
          clear HDN HDY HSN HSY hw hwb hs ho
          go_wp2_with fail
          go_roundw
          case rel => exact ⟨k + 1, hk1, by go_num, by rw [HDX.out], by rw [HSX.out], HB3.out⟩
          case measure => simp [intOf]; omega
        | false =>
          have HDX : Hid (demO p (l.take (k + 1)) = dd) := HDN.out (hwb.trans hw)
          clear HDN HDY HSN HSY hw hwb hs ho
          go_wp2_with fail
          go_roundw
          case rel => exact ⟨k + 1, hk1, by go_num, by rw [HDX.out], by rw [HSX.out], HB3.out⟩
          case measure => simp [intOf]; omega
      · have HDX : Hid (demO p (l.take (k + 1)) = dd) := HDN.out (buys_side hs)
        have hwb := will_sells (p := p) ho hs
        rw [hs] at c1
        cases hw : willB p o with
        | true =>
          have HSX : Hid (supO p (l.take (k + 1)) = ss + o.qty) := HSY.out (hwb.trans hw)
          clear HDN HDY HSN HSY hw hwb hs ho
          go_wp2_with fail
          go_roundw
          case rel => exact ⟨k + 1, hk1, by go_num, by rw [HDX.out], by rw [HSX.out], HB3.out⟩
          case measure => simp [intOf]; omega
        | false =>
          have HSX : Hid (supO p (l.take (k + 1)) = ss) := HSN.out (hwb.trans hw)
          clear HDN HDY HSN HSY hw hwb hs ho
          go_wp2_with fail
          go_roundw
          case rel => exact ⟨k + 1, hk1, by go_num, by rw [HDX.out], by rw [HSX.out], HB3.out⟩
          case measure => simp [intOf]; omega
    · obtain rfl : k = l.length := by omega
      rw [List.take_length]
      clear hb
      go_wp2_with fail
      go_ret2
      exact ⟨rfl, HB.out⟩
end Go.Proofs.Ytahmeoafoedebab
