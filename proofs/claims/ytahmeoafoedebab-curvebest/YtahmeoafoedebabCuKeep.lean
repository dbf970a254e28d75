/-
  What the program's keep returns of orders that count, over this seat's translation. Conditions stand in the theorem: where the orders lie, and that they are at most 1000.
-/
import Derived.Test.YtahmeoafoedebabCuMap
namespace Go.Proofs.Ytahmeoafoedebab
open Go.RowKit

theorem ord_filter {q : Ord → Bool} {l : List Ord} {k : Nat} (h : k < l.length) : (l.take (k + 1)).filter q = if q (oAt l k) = true then (l.take k).filter q ++ [oAt l k] else (l.take k).filter q := by
  rw [List.take_succ_eq_append_getElem h, List.filter_append, oAt_eq h]
  by_cases hq : q l[k] = true
  · rw [if_pos hq]; simp [hq]
  · rw [if_neg hq]; simp [hq]
theorem oV_snoc (a : List Ord) (x : Ord) : oV (a ++ [x]) = oV a ++ [.int .i64 x.id, .int .i64 x.side, .int .i64 x.kind, .int .i64 x.price, .int .i64 x.qty] := by rw [oV_append]; rfl
theorem Try.infoOd : (Try.prog.info? 35).map (fun i => (i.zero, i.size, i.bytes)) = some (some (.agg #[.int .i64 0, .int .i64 0, .int .i64 0, .int .i64 0, .int .i64 0]), 5, 40) := by kernel_rfl
/-- an order in a block of its own -/
def OdBox (w : World) (b : Nat) (o : Ord) : Prop := w.heap[b]? = some (.cells #[.int .i64 o.id, .int .i64 o.side, .int .i64 o.kind, .int .i64 o.price, .int .i64 o.qty] 35 (0, 0))
theorem OdBox.below {w w' : World} {b : Nat} {o : Ord} (h : OdBox w b o) (hb : Below w.heap.size w w') : OdBox w' b o := cu_keep h hb

set_option maxRecDepth 4000 in
set_option maxHeartbeats 4000000 in
theorem cuKeep (a : Option Addr) (cap : Nat) (l : List Ord) (w : World) (h : OrdsIn w a l) (hl : l.length ≤ 1000) :
    Calls Try.prog 21 #[.slice a l.length cap, .func (.func 22) #[] #[]] w fun e w' => ∃ v', e = .returned v' ∧ w'.ownsRow w.heap.size 35 5 v' (l.filter okO).length (oV (l.filter okO)) ∧ Below w.heap.size w w' := by
  obtain ⟨iP, hiP, hP0, hP1, hP2⟩ := info_parts Try.infoOd
  have HA : Hid (OrdsIn w a l) := h
  clear h
  go_enter Try.func21, Try.ntmps21
  go_wp2_with fail
  go_loopw [5, 10] (fun v i wr => ∃ k : Nat, k ≤ l.length ∧ i = .int .i64 k ∧ wr.ownsRow w.heap.size 35 5 v ((l.take k).filter okO).length (oV ((l.take k).filter okO)) ∧ Below w.heap.size w wr) (fun _ i _ => l.length - (RowKit.intOf i).toNat)
  case atStart => exact ⟨0, Nat.zero_le _, rfl, World.ownsRow_nil _ _ _ _, Below.refl _ _⟩
  case round =>
    obtain ⟨k, hk, rfl, hown, hb⟩ := hrel
    have HW : Hid (wr.ownsRow w.heap.size 35 5 u5 ((l.take k).filter okO).length (oV ((l.take k).filter okO))) := hown
    have HB : Hid (Below w.heap.size w wr) := hb
    have hbl : ((l.take k).filter okO).length ≤ 1000 := by
      have := List.length_filter_le okO (l.take k)
      rw [List.length_take] at this
      omega
    obtain ⟨vao, vcap, rfl, _, _⟩ := bk_shape hown
    clear hown
    by_cases hk1 : k < l.length
    · have hlt : (k : Int) < (l.length : Int) := by omega
      obtain ⟨b, off, rfl, d0, d1, d2, d3, d4⟩ := HA.out.below hb k hk1
      have HT : Hid ((l.take (k + 1)).filter okO = if okO (oAt l k) = true then (l.take k).filter okO ++ [oAt l k] else (l.take k).filter okO) := ord_filter hk1
      clear hb
      generalize oAt l k = x at d0 d1 d2 d3 d4 HT
      generalize (l.take k).filter okO = acc at HT HW hbl
      go_wp2_with fail
      have hX : OdBox (wr.alloc (.cells #[.int .i64 x.id, .int .i64 x.side, .int .i64 x.kind, .int .i64 x.price, .int .i64 x.qty] 35)) wr.heap.size x := heap_alloc_new wr _
      have hbA := cu_bel1 wr (.cells #[.int .i64 x.id, .int .i64 x.side, .int .i64 x.kind, .int .i64 x.price, .int .i64 x.qty] 35)
      generalize wr.alloc (.cells #[.int .i64 x.id, .int .i64 x.side, .int .i64 x.kind, .int .i64 x.price, .int .i64 x.qty] 35) = W at hX hbA ⊢
      generalize wr.heap.size = xb at hX ⊢
      refine (cuCounts x W).mono ?_
      rintro e w4 ⟨rfl, hb4⟩
      have hX4 := hX.below hb4
      have HW4 : Hid (w4.ownsRow w.heap.size 35 5 (.slice vao acc.length vcap) acc.length (oV acc)) := bk_below HW.out (cu_then hbA hb4) (Nat.le_refl _)
      have HB4 : Hid (Below w.heap.size w w4) := cu_then HB.out (cu_then hbA hb4)
      clear hX hbA hb4 HW HB d0 d1 d2 d3 d4
      cases hq : okO x with
      | true =>
        have HT2 : Hid ((l.take (k + 1)).filter okO = acc ++ [x]) := by rw [HT.out, if_pos hq]; rfl
        have y0 := cu_blk (j := 0) hX4 rfl
        have y1 := cu_blk (j := 1) hX4 rfl
        have y2 := cu_blk (j := 2) hX4 rfl
        have y3 := cu_blk (j := 3) hX4 rfl
        have y4 := cu_blk (j := 4) hX4 rfl
        clear HT hq hX4
        go_wp2_with (at_builtin; refine wpList_append_own_at _ rfl _ _ 22 rfl w.heap.size 35 iP (.agg #[.int .i64 0, .int .i64 0, .int .i64 0, .int .i64 0, .int .i64 0]) 5 40 Try.underlying22 hiP hP0 hP1 hP2 rfl (by decide) _ acc.length (oV acc) rfl (HW4.out.alloc _) ⟨w4.heap.size, 0, none⟩ 1 1 [.int .i64 x.id, .int .i64 x.side, .int .i64 x.kind, .int .i64 x.price, .int .i64 x.qty] rfl rfl (World.news_of_block (cs := #[.int .i64 x.id, .int .i64 x.side, .int .i64 x.kind, .int .i64 x.price, .int .i64 x.qty]) (t := 35) (fr := (0, 0)) (heap_alloc_new w4 _)) (by simp [Value.oneCell']) (by unfold maxLen; omega) (by omega) (by have := HB4.out.size; simp; omega) ?_; intro v' w6 hown6 hgrow6 _ _)
        go_roundw
        case rel =>
          refine ⟨k + 1, hk1, by go_num, ?_, (HB4.out.alloc HB4.out.size _).grown hgrow6 (by have := HB4.out.size; simp; omega) (fun q hq => (HW4.out.lt q hq).1)⟩
          rw [HT2.out, oV_snoc, List.length_append, List.length_singleton]
          exact hown6
        case measure => simp [RowKit.intOf]; omega
      | false =>
        have HT2 : Hid ((l.take (k + 1)).filter okO = acc) := by rw [HT.out, if_neg (by rw [hq]; decide)]; rfl
        clear HT hq hX4
        go_wp2_with fail
        go_roundw
        case rel => exact ⟨k + 1, hk1, by go_num, by rw [HT2.out]; exact HW4.out, HB4.out⟩
        case measure => simp [RowKit.intOf]; omega
    · obtain rfl : k = l.length := by omega
      rw [List.take_length] at HW hbl ⊢
      clear hb
      go_wp2_with fail
      go_ret
      exact ⟨_, rfl, HW.out, HB.out⟩
end Go.Proofs.Ytahmeoafoedebab
